import Derived.Test.YthlfboaidhgnlaaGreatDoorCw
import Derived.Test.YthlfboaidhgnlaaGreatDoorOrk
import Derived.Test.YthlfboaidhgnlaaGreatDoorEd
import Derived.Test.YthlfboaidhgnlaaGreatDoorAw
import Derived.Test.YthlfboaidhgnlaaGreatDoorLg
import Derived.Deep.CutRange
namespace Go.Proofs.YthlfboaidhgnlaaGreatDoor
open Go.RowKit

theorem results_tm2 {fn : Func} {u p : Tmp} (h : fn.results = #[.cell p 25, .tmp u]) (tmps : Array Value) (w : World) (b : Nat) (t : Tm) (y : Value) (hu : tmps.getD u undef = y) (hp : tmps.getD p undef = .pointer (some ⟨b, 0, none⟩)) (hb : Bl 25 w b (tmC t)) :
    (results fn tmps).run Tryz.prog w = .ok (.tuple #[tmV t, y]) w := by
  have hr : (loadVar 25 ⟨b, 0, none⟩).run Tryz.prog w = .ok (tmV t) w := by
    refine run_loadVar_mid w b 0 25 (tmC t) _ ?_ Tryz.underlying25 rfl (by kernel_rfl)
    intro j v hv
    obtain ⟨hj, e⟩ := List.getElem?_eq_some_iff.1 hv
    rw [Nat.zero_add, ← e]
    exact hb.cell j hj
  have hr2 : (results fn tmps).run Tryz.prog w = ((asAddr (tmps.getD p undef)).run Tryz.prog w).andThen fun a w₁ => ((loadVar 25 a).run Tryz.prog w₁).andThen fun v w₂ => .ok (.tuple #[v, tmps.getD u undef]) w₂ := by
    simp only [results, h]
    simp [Sem.run_bind, Result.andThen]
  rw [hr2, hp]
  unfold asAddr
  simp only [Sem.run_pure, Result.andThen_ok]
  rw [hr, hu]
  rfl

set_option maxRecDepth 100000 in
set_option maxHeartbeats 8000000 in
theorem string1_any (l : List Nd) (ao : Option Addr) (cap : Nat) (k : List UInt8) (w : World) (h : NR w (.slice ao l.length cap) l ao cap) (hl : l.length ≤ 1000000000) :
    Calls Tryz.prog 17 #[.slice ao l.length cap, .string ⟨k.toArray⟩] w fun e w' => e = .returned (.tuple #[.string ⟨(txF l k).1.toArray⟩, .bool (txF l k).2, .bool (okT l k)]) ∧ Below w.heap.size w w' := by
  have CM := member_any _ l ao cap 0 k w h hl
  have HN : Hid (NR w (.slice ao l.length cap) l ao cap) := h
  have HI := mem_in l k
  have HF : Hid (txF l k = if memF l 0 k < 0 then ([], false) else ((l.getD (memF l 0 k).toNat (nd0 0)).text, true)) := rfl
  have HO : Hid (okT l k = (decide (memF l 0 k < 0) || decide ((l.getD (memF l 0 k).toNat (nd0 0)).kind = 5))) := rfl
  have hlt : ∀ i ∈ kidsF l 0, i < l.length := kidsF_lt
  rcases HI with e | ⟨i, hi, e, _⟩
  · rw [e] at HF CM HO
    have HO2 : Hid (okT l k = true) := by show _ = _; rw [HO.out]; simp
    clear h hlt e HO
    go_enter Tryz.func17, Tryz.ntmps17
    go_wp2_with fail
    refine CM.mono ?_
    clear CM
    rintro e w1 ⟨rfl, hB⟩
    have HB : Hid (Below w.heap.size w w1) := hB
    clear hB HN
    go_wp2
    go_ret3
    rw [HF.out, HO2.out]
    exact ⟨rfl, HB.out⟩
  · have hil := hlt i hi
    rw [e] at HF CM HO
    rw [Int.toNat_natCast] at HF HO
    have HF2 : Hid (txF l k = ((l.getD i (nd0 0)).text, true)) := by show _ = _; rw [HF.out]; exact if_neg (by omega)
    have HO2 : Hid (okT l k = ((l.getD i (nd0 0)).kind == 5)) := by
      show _ = _
      rw [HO.out, decide_eq_false (by omega)]
      rw [Bool.false_or, Bool.eq_iff_iff, decide_eq_true_eq, beq_iff_eq]
    clear h hlt e hi HF HO
    have q0 : decide ((i : Int) < 0) = false := decide_eq_false (by omega)
    go_enter Tryz.func17, Tryz.ntmps17
    go_wp2_with fail
    refine CM.mono ?_
    clear CM
    rintro e w1 ⟨rfl, hB⟩
    have HB : Hid (Below w.heap.size w w1) := hB
    obtain ⟨g, off, rfl, hc2⟩ := (HN.out.below hB (Nat.le_refl _)).at hil
    obtain ⟨n, hn⟩ : ∃ n, l.getD i (nd0 0) = n := ⟨_, rfl⟩
    rw [hn] at hc2 HF2 HO2
    have ck2 := hc2 2 (.string ⟨n.text.toArray⟩) (by omega) rfl
    have ck0 := hc2 0 (.int .i64 n.kind) (by omega) rfl
    rw [Nat.add_zero] at ck0
    clear hB HN hc2 hn
    go_wp2
    refine wp_region_K 13 (fun (w' : World) => w'.cell? ⟨g, off + i * 6 + 2, none⟩ = some (.string ⟨n.text.toArray⟩) ∧ w'.cell? ⟨g, off + i * 6, none⟩ = some (.int .i64 n.kind)) (by kernel_rfl) ?_
    have hHeld : ((fun (w' : World) => w'.cell? ⟨g, off + i * 6 + 2, none⟩ = some (.string ⟨n.text.toArray⟩) ∧ w'.cell? ⟨g, off + i * 6, none⟩ = some (.int .i64 n.kind))) (World.drew _) := ⟨ck2, ck0⟩
    refine wpAnyK_take0 0 (v := ?v21) rfl (by kernel_rfl) (fun _ _ _ h => h) (Or.inl ⟨by rfl, ?hy21⟩) (fun _ => hHeld) ?_
    case hy21 => (intro w hSw; go_simp; try with_reducible rfl)
    try simp only [Act.put, List.setIfInBounds_toArray, List.set_cons_zero, List.set_cons_succ]
    refine wpAnyK_take0 1 (v := ?v22) rfl (by kernel_rfl) (fun _ _ _ h => h) (Or.inl ⟨by rfl, ?hy22⟩) (fun _ => hHeld) ?_
    case hy22 => (intro w hSw; go_simp; try with_reducible rfl)
    try simp only [Act.put, List.setIfInBounds_toArray, List.set_cons_zero, List.set_cons_succ]
    refine wpAnyK_take0 2 (v := ?v23) rfl (by kernel_rfl) (fun _ _ _ h => h) (Or.inl ⟨by rfl, ?hy23⟩) (fun _ => hHeld) ?_
    case hy23 => (intro w hSw; go_simp; try with_reducible rfl)
    try simp only [Act.put, List.setIfInBounds_toArray, List.set_cons_zero, List.set_cons_succ]
    refine wpAnyK_take0 3 (v := ?v24) rfl (by kernel_rfl) (fun _ _ _ h => h) (Or.inl ⟨by rfl, ?hy24⟩) (fun _ => hHeld) ?_
    case hy24 => (intro w hSw; go_simp; try with_reducible rfl)
    try simp only [Act.put, List.setIfInBounds_toArray, List.set_cons_zero, List.set_cons_succ]
    refine wpAnyK_take 4 [11, 12, 13] (v := ?v25) rfl (by kernel_rfl) (fun _ _ _ h => h) (Or.inl ⟨by rfl, ?hy25⟩) hHeld ?_
    case hy25 => (intro w hSw; (try dsimp only at hSw); go_simp; try with_reducible rfl)
    try simp only [Act.put, List.setIfInBounds_toArray, List.set_cons_zero, List.set_cons_succ]
    refine wpAnyK_take0 5 (v := ?v26) rfl (by kernel_rfl) (fun _ _ _ h => h) (Or.inl ⟨by rfl, ?hy26⟩) (fun _ => hHeld) ?_
    case hy26 => (intro w hSw; go_simp; try with_reducible rfl)
    try simp only [Act.put, List.setIfInBounds_toArray, List.set_cons_zero, List.set_cons_succ]
    refine wpAnyK_take0 6 (v := ?v27) rfl (by kernel_rfl) (fun _ _ _ h => h) (Or.inl ⟨by rfl, ?hy27⟩) (fun _ => hHeld) ?_
    case hy27 => (intro w hSw; go_simp; try with_reducible rfl)
    try simp only [Act.put, List.setIfInBounds_toArray, List.set_cons_zero, List.set_cons_succ]
    refine wpAnyK_take0 7 (v := ?v28) rfl (by kernel_rfl) (fun _ _ _ h => h) (Or.inl ⟨by rfl, ?hy28⟩) (fun _ => hHeld) ?_
    case hy28 => (intro w hSw; go_simp; try with_reducible rfl)
    try simp only [Act.put, List.setIfInBounds_toArray, List.set_cons_zero, List.set_cons_succ]
    refine wpAnyK_take0 8 (v := ?v29) rfl (by kernel_rfl) (fun _ _ _ h => h) (Or.inl ⟨by rfl, ?hy29⟩) (fun _ => hHeld) ?_
    case hy29 => (intro w hSw; go_simp; try with_reducible rfl)
    try simp only [Act.put, List.setIfInBounds_toArray, List.set_cons_zero, List.set_cons_succ]
    refine wpAnyK_take 9 [10, 13] (v := ?v30) rfl (by kernel_rfl) (fun _ _ _ h => h) (Or.inl ⟨by rfl, ?hy30⟩) hHeld ?_
    case hy30 => (intro w hSw; (try dsimp only at hSw); go_simp; try with_reducible rfl)
    try simp only [Act.put, List.setIfInBounds_toArray, List.set_cons_zero, List.set_cons_succ]
    refine wpAnyK_take0 10 (v := ?v31) rfl (by kernel_rfl) (fun _ _ _ h => h) (Or.inl ⟨by rfl, ?hy31⟩) (fun _ => hHeld) ?_
    case hy31 => (intro w hSw; go_simp; try with_reducible rfl)
    try simp only [Act.put, List.setIfInBounds_toArray, List.set_cons_zero, List.set_cons_succ]
    refine wpAnyK_take0 11 (v := ?v32) rfl (by kernel_rfl) (fun _ _ _ h => h) (Or.inl ⟨by rfl, ?hy32⟩) (fun _ => hHeld) ?_
    case hy32 => (intro w hSw; go_simp; try with_reducible rfl)
    try simp only [Act.put, List.setIfInBounds_toArray, List.set_cons_zero, List.set_cons_succ]
    refine wpAnyK_take0 12 (v := ?v33) rfl (by kernel_rfl) (fun _ _ _ h => h) (Or.inl ⟨by rfl, ?hy33⟩) (fun _ => hHeld) ?_
    case hy33 => (intro w hSw; go_simp; try with_reducible rfl)
    try simp only [Act.put, List.setIfInBounds_toArray, List.set_cons_zero, List.set_cons_succ]
    refine wpAnyK_step 13 rfl (by kernel_rfl) (fun K34 hK => ?_)
    go_simp
    refine hK.out _ _ (fun h => nomatch (h.symm.trans (show _ = true by kernel_rfl))) ?_
    clear hK K34
    try simp only [Act.put, List.setIfInBounds_toArray, List.set_cons_zero, List.set_cons_succ]
    refine wpAnyK_done (by kernel_rfl) ?_ _
    clear hHeld
    go_wp2
    go_ret3
    rw [HF2.out, HO2.out]
    exact ⟨rfl, below_drewN HB.out 1⟩

set_option maxRecDepth 100000 in
set_option maxHeartbeats 8000000 in
theorem whole_any9 (l : List Nd) (ao : Option Addr) (cap : Nat) (k : List UInt8) (w : World) (h : NR w (.slice ao l.length cap) l ao cap) (hl : l.length ≤ 1000000000) :
    Calls Tryz.prog 18 #[.slice ao l.length cap, .string ⟨k.toArray⟩] w fun e w' => e = .returned (.tuple #[tmV (moF l k), .bool (okM l k)]) ∧ Below w.heap.size w w' := by
  obtain ⟨w0, hw0⟩ : ∃ w0 : World, w.alloc (.cells (tmC tm0).toArray 25) = w0 := ⟨_, rfl⟩
  have hB0 : Below w.heap.size w w0 := by rw [← hw0]; exact alloc_below _ _
  have HBl : Hid (Bl 25 w0 w.heap.size (tmC tm0)) := by rw [← hw0]; exact alloc_bl _ _ _
  have HB0 : Hid (Below w.heap.size w w0) := hB0
  have HW0 : Hid (w.alloc (.cells #[.bool false, .int .i64 0] 25) = w0) := hw0
  have CM := member_any _ l ao cap 0 k w0 (h.below hB0 (Nat.le_refl _)) hl
  have HN : Hid (NR w0 (.slice ao l.length cap) l ao cap) := h.below hB0 (Nat.le_refl _)
  have HI := mem_in l k
  have HF : Hid (moF l k = if memF l 0 k < 0 then tm0 else ⟨true, (l.getD (memF l 0 k).toNat (nd0 0)).int⟩) := rfl
  have HO : Hid (okM l k = (decide (memF l 0 k < 0) || (decide ((l.getD (memF l 0 k).toNat (nd0 0)).kind = 4) && (l.getD (memF l 0 k).toNat (nd0 0)).whole))) := rfl
  have hlt : ∀ i ∈ kidsF l 0, i < l.length := kidsF_lt
  rcases HI with e | ⟨i, hi, e, _⟩
  · rw [e] at HF CM HO
    have HF2 : Hid (moF l k = tm0) := by show _ = _; rw [HF.out]; exact if_pos (by decide)
    have HO2 : Hid (okM l k = true) := by show _ = _; rw [HO.out]; simp
    have hgi : (Tryz.prog.info? 25).map (·.size) = some 2 := by kernel_rfl
    clear h hlt e hB0 hw0 HF HO
    go_enter Tryz.func18, Tryz.ntmps18
    go_wp2_with fail
    rw [HW0.out]
    clear HW0
    refine CM.mono ?_
    clear CM
    rintro e w1 ⟨rfl, hB⟩
    have HB : Hid (Below w.heap.size w w1) := HB0.out.trans (hB.mono HB0.out.size)
    have HBox : Hid (Bl 25 w1 w.heap.size (tmC tm0)) := HBl.out.below hB HBl.out.lt
    clear hB HN HB0 HBl
    obtain ⟨wz, hwz⟩ : ∃ wz, w1.setRow w.heap.size (tmC tm0).toArray = wz := ⟨_, rfl⟩
    have HBz : Hid (Bl 25 wz w.heap.size (tmC tm0)) := by rw [← hwz]; exact set_bl2 HBox.out
    have Hz : Hid (Below w.heap.size w wz) := by rw [← hwz]; exact setRow_below2 _ HB.out (Nat.le_refl _)
    have HWz : Hid (w1.setRow w.heap.size (tmC tm0).toArray = wz) := hwz
    clear hwz
    go_wp2_with (refine wpList_store_row rfl 25 (.tmp 4) (.tmp 12) rfl w.heap.size (tmC tm0).toArray rfl rfl 25 (tmC tm0).toArray HBox.out hgi rfl (by simp [tmC, tm0, Value.oneCell']) ?_; rw [HWz.out]; clear HWz hgi)
    (try simp only [Exit.inBlock, Exit.then])
    refine bodyPost_ret (v := .tuple #[tmV tm0, .bool true]) (results_tm2 rfl _ _ w.heap.size tm0 _ rfl rfl HBz.out) rfl ⟨?_, Hz.out⟩
    rw [HF2.out, HO2.out]
  · have hil := hlt i hi
    rw [e] at HF CM HO
    rw [Int.toNat_natCast] at HF HO
    have HF2 : Hid (moF l k = ⟨true, (l.getD i (nd0 0)).int⟩) := by show _ = _; rw [HF.out]; exact if_neg (by omega)
    have q0 : decide ((i : Int) < 0) = false := decide_eq_false (by omega)
    have HO1 : Hid (okM l k = (decide ((l.getD i (nd0 0)).kind = 4) && (l.getD i (nd0 0)).whole)) := by show _ = _; rw [HO.out, decide_eq_false (by omega)]; rfl
    clear hlt e hi hB0 hw0 HF HO
    go_enter Tryz.func18, Tryz.ntmps18
    go_wp2_with fail
    rw [HW0.out]
    clear HW0
    refine CM.mono ?_
    clear CM
    rintro e w1 ⟨rfl, hB⟩
    have HB : Hid (Below w.heap.size w w1) := HB0.out.trans (hB.mono HB0.out.size)
    have HBox : Hid (Bl 25 w1 w.heap.size (tmC tm0)) := HBl.out.below hB HBl.out.lt
    obtain ⟨g, off, rfl, hc2⟩ := (HN.out.below hB (Nat.le_refl _)).at hil
    obtain ⟨n, hn⟩ : ∃ n, l.getD i (nd0 0) = n := ⟨_, rfl⟩
    rw [hn] at hc2 HF2 HO1
    have ck4 := hc2 4 (.int .i64 n.int) (by omega) rfl
    have ck3 := hc2 3 (.bool n.whole) (by omega) rfl
    have ck0 := hc2 0 (.int .i64 n.kind) (by omega) rfl
    rw [Nat.add_zero] at ck0
    have hgne : g ≠ w.heap.size := by
      rcases h.cell with h0 | ⟨g', off', e', hg', _⟩
      · rw [h0] at hil; simp at hil
      · cases e'; omega
    have hgi : (Tryz.prog.info? 25).map (·.size) = some 2 := by kernel_rfl
    obtain ⟨wz, hwz⟩ : ∃ wz, w1.drew.setRow w.heap.size (tmC ⟨true, n.int⟩).toArray = wz := ⟨_, rfl⟩
    have HBz : Hid (Bl 25 wz w.heap.size (tmC ⟨true, n.int⟩)) := by rw [← hwz]; exact set_bl2 (show Bl 25 w1.drew w.heap.size (tmC tm0) from HBox.out)
    have Hz : Hid (Below w.heap.size w wz) := by rw [← hwz]; exact setRow_below2 _ (below_drewN HB.out 1) (Nat.le_refl _)
    have HSz : Hid ((fun (w' : World) => w'.cell? ⟨g, off + i * 6 + 4, none⟩ = some (.int .i64 n.int) ∧ w'.cell? ⟨g, off + i * 6, none⟩ = some (.int .i64 n.kind) ∧ w'.cell? ⟨g, off + i * 6 + 3, none⟩ = some (.bool n.whole)) wz) := by
      have hk : ∀ o v, w1.cell? ⟨g, o, none⟩ = some v → wz.cell? ⟨g, o, none⟩ = some v := fun o v hv => cell_but hv fun _ => by rw [← hwz]; exact setRow_other w1.drew w.heap.size g _ hgne
      exact ⟨hk _ _ ck4, hk _ _ ck0, hk _ _ ck3⟩
    have HWz : Hid (w1.drew.setRow w.heap.size (tmC ⟨true, n.int⟩).toArray = wz) := hwz
    clear h hgne hwz
    clear hB HN HB0 HBl hc2 hn
    by_cases h4 : n.kind = 4
    · have q4 : (n.kind == 4) = true := by simpa using h4
      have HO2 : Hid (okM l k = n.whole) := by show _ = _; rw [HO1.out, decide_eq_true h4]; rfl
      clear HO1 h4
      go_wp2
      refine wp_region_K 20 (fun (w' : World) => w'.cell? ⟨g, off + i * 6 + 4, none⟩ = some (.int .i64 n.int) ∧ w'.cell? ⟨g, off + i * 6, none⟩ = some (.int .i64 n.kind) ∧ w'.cell? ⟨g, off + i * 6 + 3, none⟩ = some (.bool n.whole)) (by kernel_rfl) ?_
      have hHeld : ((fun (w' : World) => w'.cell? ⟨g, off + i * 6 + 4, none⟩ = some (.int .i64 n.int) ∧ w'.cell? ⟨g, off + i * 6, none⟩ = some (.int .i64 n.kind) ∧ w'.cell? ⟨g, off + i * 6 + 3, none⟩ = some (.bool n.whole))) (World.drew _) := ⟨ck4, ck0, ck3⟩
      refine wpAnyK_take0 0 (v := ?v35) rfl (by kernel_rfl) (fun _ _ _ h => h) (Or.inl ⟨by rfl, ?hy35⟩) (fun _ => hHeld) ?_
      case hy35 => (intro w hSw; go_simp; try with_reducible rfl)
      try simp only [Act.put, List.setIfInBounds_toArray, List.set_cons_zero, List.set_cons_succ]
      refine wpAnyK_take0 1 (v := ?v36) rfl (by kernel_rfl) (fun _ _ _ h => h) (Or.inl ⟨by rfl, ?hy36⟩) (fun _ => hHeld) ?_
      case hy36 => (intro w hSw; go_simp; try with_reducible rfl)
      try simp only [Act.put, List.setIfInBounds_toArray, List.set_cons_zero, List.set_cons_succ]
      refine wpAnyK_take0 2 (v := ?v37) rfl (by kernel_rfl) (fun _ _ _ h => h) (Or.inl ⟨by rfl, ?hy37⟩) (fun _ => hHeld) ?_
      case hy37 => (intro w hSw; go_simp; try with_reducible rfl)
      try simp only [Act.put, List.setIfInBounds_toArray, List.set_cons_zero, List.set_cons_succ]
      refine wpAnyK_take0 3 (v := ?v38) rfl (by kernel_rfl) (fun _ _ _ h => h) (Or.inl ⟨by rfl, ?hy38⟩) (fun _ => hHeld) ?_
      case hy38 => (intro w hSw; go_simp; try with_reducible rfl)
      try simp only [Act.put, List.setIfInBounds_toArray, List.set_cons_zero, List.set_cons_succ]
      refine wpAnyK_take 4 [5, 19, 20] (v := ?v39) rfl (by kernel_rfl) (fun _ _ _ h => h) (Or.inl ⟨by rfl, ?hy39⟩) hHeld ?_
      case hy39 => (intro w hSw; (try dsimp only at hSw); go_simp; try with_reducible rfl)
      try simp only [Act.put, List.setIfInBounds_toArray, List.set_cons_zero, List.set_cons_succ]
      refine wpAnyK_take0 5 (v := ?v40) rfl (by kernel_rfl) (fun _ _ _ h => h) (Or.inl ⟨by rfl, ?hy40⟩) (fun _ => hHeld) ?_
      case hy40 => (intro w hSw; go_simp; try with_reducible rfl)
      try simp only [Act.put, List.setIfInBounds_toArray, List.set_cons_zero, List.set_cons_succ]
      refine wpAnyK_take0 6 (v := ?v41) rfl (by kernel_rfl) (fun _ _ _ h => h) (Or.inl ⟨by rfl, ?hy41⟩) (fun _ => hHeld) ?_
      case hy41 => (intro w hSw; go_simp; try with_reducible rfl)
      try simp only [Act.put, List.setIfInBounds_toArray, List.set_cons_zero, List.set_cons_succ]
      refine wpAnyK_take0 7 (v := ?v42) rfl (by kernel_rfl) (fun _ _ _ h => h) (Or.inl ⟨by rfl, ?hy42⟩) (fun _ => hHeld) ?_
      case hy42 => (intro w hSw; go_simp; try with_reducible rfl)
      try simp only [Act.put, List.setIfInBounds_toArray, List.set_cons_zero, List.set_cons_succ]
      refine wpAnyK_take0 8 (v := ?v43) rfl (by kernel_rfl) (fun _ _ _ h => h) (Or.inl ⟨by rfl, ?hy43⟩) (fun _ => hHeld) ?_
      case hy43 => (intro w hSw; go_simp; try with_reducible rfl)
      try simp only [Act.put, List.setIfInBounds_toArray, List.set_cons_zero, List.set_cons_succ]
      refine wpAnyK_take0 9 (v := ?v44) rfl (by kernel_rfl) (fun _ _ _ h => h) (Or.inl ⟨by rfl, ?hy44⟩) (fun _ => hHeld) ?_
      case hy44 => (intro w hSw; go_simp; try with_reducible rfl)
      try simp only [Act.put, List.setIfInBounds_toArray, List.set_cons_zero, List.set_cons_succ]
      refine wpAnyK_take 10 [11, 12, 18, 20] (v := ?v45) rfl (by kernel_rfl) (fun _ _ _ h => h) (Or.inl ⟨by rfl, ?hy45⟩) hHeld ?_
      case hy45 => (intro w hSw; (try dsimp only at hSw); go_simp; try with_reducible rfl)
      try simp only [Act.put, List.setIfInBounds_toArray, List.set_cons_zero, List.set_cons_succ]
      refine wpAnyK_take0 11 (v := ?v46) rfl (by kernel_rfl) (fun _ _ _ h => h) (Or.inl ⟨by rfl, ?hy46⟩) (fun _ => hHeld) ?_
      case hy46 => (intro w hSw; go_simp; (try rw [q4]); try with_reducible rfl)
      try simp only [Act.put, List.setIfInBounds_toArray, List.set_cons_zero, List.set_cons_succ]
      refine wpAnyK_take0 12 (v := ?v47) rfl (by kernel_rfl) (fun _ _ _ h => h) (Or.inl ⟨by rfl, ?hy47⟩) (fun _ => hHeld) ?_
      case hy47 => (intro w hSw; go_simp; try with_reducible rfl)
      try simp only [Act.put, List.setIfInBounds_toArray, List.set_cons_zero, List.set_cons_succ]
      refine wpAnyK_take0 13 (v := ?v48) rfl (by kernel_rfl) (fun _ _ _ h => h) (Or.inl ⟨by rfl, ?hy48⟩) (fun _ => hHeld) ?_
      case hy48 => (intro w hSw; go_simp; try with_reducible rfl)
      try simp only [Act.put, List.setIfInBounds_toArray, List.set_cons_zero, List.set_cons_succ]
      refine wpAnyK_take0 14 (v := ?v49) rfl (by kernel_rfl) (fun _ _ _ h => h) (Or.inl ⟨by rfl, ?hy49⟩) (fun _ => hHeld) ?_
      case hy49 => (intro w hSw; go_simp; try with_reducible rfl)
      try simp only [Act.put, List.setIfInBounds_toArray, List.set_cons_zero, List.set_cons_succ]
      refine wpAnyK_take0 15 (v := ?v50) rfl (by kernel_rfl) (fun _ _ _ h => h) (Or.inl ⟨by rfl, ?hy50⟩) (fun _ => hHeld) ?_
      case hy50 => (intro w hSw; go_simp; try with_reducible rfl)
      try simp only [Act.put, List.setIfInBounds_toArray, List.set_cons_zero, List.set_cons_succ]
      refine wpAnyK_take0 16 (v := ?v51) rfl (by kernel_rfl) (fun _ _ _ h => h) (Or.inl ⟨by rfl, ?hy51⟩) (fun _ => hHeld) ?_
      case hy51 => (intro w hSw; go_simp; try with_reducible rfl)
      try simp only [Act.put, List.setIfInBounds_toArray, List.set_cons_zero, List.set_cons_succ]
      refine wpAnyK_take 17 [18, 20] (v := ?v52) rfl (by kernel_rfl) (fun _ _ _ h => h) (Or.inl ⟨by rfl, ?hy52⟩) hHeld ?_
      case hy52 => (intro w hSw; (try dsimp only at hSw); go_simp; try with_reducible rfl)
      try simp only [Act.put, List.setIfInBounds_toArray, List.set_cons_zero, List.set_cons_succ]
      refine wpAnyK_take0 18 (v := ?v53) rfl (by kernel_rfl) (fun _ _ _ h => h) (Or.inl ⟨by rfl, ?hy53⟩) (fun _ => hHeld) ?_
      case hy53 => (intro w hSw; go_simp; try with_reducible rfl)
      try simp only [Act.put, List.setIfInBounds_toArray, List.set_cons_zero, List.set_cons_succ]
      refine wpAnyK_step 19 rfl (by kernel_rfl) (fun K54 hK => ?_)
      rw [if_pos (by kernel_rfl)]
      refine wp_store_row 25 (.tmp 4) (.tmp 18) rfl w.heap.size (tmC ⟨true, n.int⟩).toArray rfl rfl 25 (tmC tm0).toArray HBox.out hgi rfl (by simp [tmC, Value.oneCell']) ?_
      rw [HWz.out]
      refine hK.out _ _ (fun _ => HSz.out) ?_
      clear hK K54 hHeld
      have hHeld : ((fun (w' : World) => w'.cell? ⟨g, off + i * 6 + 4, none⟩ = some (.int .i64 n.int) ∧ w'.cell? ⟨g, off + i * 6, none⟩ = some (.int .i64 n.kind) ∧ w'.cell? ⟨g, off + i * 6 + 3, none⟩ = some (.bool n.whole))) _ := HSz.out
      try simp only [Act.put]
      refine wpAnyK_step 20 rfl (by kernel_rfl) (fun K55 hK => ?_)
      go_simp
      refine hK.out _ _ (fun h => nomatch (h.symm.trans (show _ = true by kernel_rfl))) ?_
      clear hK K55
      try simp only [Act.put, List.setIfInBounds_toArray, List.set_cons_zero, List.set_cons_succ]
      refine wpAnyK_done (by kernel_rfl) ?_ _
      clear hHeld
      go_wp2
      (try simp only [Exit.inBlock, Exit.then])
      refine bodyPost_ret (v := .tuple #[tmV ⟨true, n.int⟩, .bool n.whole]) (results_tm2 rfl _ _ w.heap.size ⟨true, n.int⟩ _ rfl rfl HBz.out) rfl ⟨?_, Hz.out⟩
      rw [HF2.out, HO2.out]
    · have q4 : (n.kind == 4) = false := by simpa using h4
      have HO2 : Hid (okM l k = false) := by show _ = _; rw [HO1.out, decide_eq_false h4]; rfl
      clear HO1 h4
      go_wp2
      refine wp_region_K 20 (fun (w' : World) => w'.cell? ⟨g, off + i * 6 + 4, none⟩ = some (.int .i64 n.int) ∧ w'.cell? ⟨g, off + i * 6, none⟩ = some (.int .i64 n.kind) ∧ w'.cell? ⟨g, off + i * 6 + 3, none⟩ = some (.bool n.whole)) (by kernel_rfl) ?_
      have hHeld : ((fun (w' : World) => w'.cell? ⟨g, off + i * 6 + 4, none⟩ = some (.int .i64 n.int) ∧ w'.cell? ⟨g, off + i * 6, none⟩ = some (.int .i64 n.kind) ∧ w'.cell? ⟨g, off + i * 6 + 3, none⟩ = some (.bool n.whole))) (World.drew _) := ⟨ck4, ck0, ck3⟩
      refine wpAnyK_take0 0 (v := ?v56) rfl (by kernel_rfl) (fun _ _ _ h => h) (Or.inl ⟨by rfl, ?hy56⟩) (fun _ => hHeld) ?_
      case hy56 => (intro w hSw; go_simp; try with_reducible rfl)
      try simp only [Act.put, List.setIfInBounds_toArray, List.set_cons_zero, List.set_cons_succ]
      refine wpAnyK_take0 1 (v := ?v57) rfl (by kernel_rfl) (fun _ _ _ h => h) (Or.inl ⟨by rfl, ?hy57⟩) (fun _ => hHeld) ?_
      case hy57 => (intro w hSw; go_simp; try with_reducible rfl)
      try simp only [Act.put, List.setIfInBounds_toArray, List.set_cons_zero, List.set_cons_succ]
      refine wpAnyK_take0 2 (v := ?v58) rfl (by kernel_rfl) (fun _ _ _ h => h) (Or.inl ⟨by rfl, ?hy58⟩) (fun _ => hHeld) ?_
      case hy58 => (intro w hSw; go_simp; try with_reducible rfl)
      try simp only [Act.put, List.setIfInBounds_toArray, List.set_cons_zero, List.set_cons_succ]
      refine wpAnyK_take0 3 (v := ?v59) rfl (by kernel_rfl) (fun _ _ _ h => h) (Or.inl ⟨by rfl, ?hy59⟩) (fun _ => hHeld) ?_
      case hy59 => (intro w hSw; go_simp; try with_reducible rfl)
      try simp only [Act.put, List.setIfInBounds_toArray, List.set_cons_zero, List.set_cons_succ]
      refine wpAnyK_take 4 [5, 19, 20] (v := ?v60) rfl (by kernel_rfl) (fun _ _ _ h => h) (Or.inl ⟨by rfl, ?hy60⟩) hHeld ?_
      case hy60 => (intro w hSw; (try dsimp only at hSw); go_simp; try with_reducible rfl)
      try simp only [Act.put, List.setIfInBounds_toArray, List.set_cons_zero, List.set_cons_succ]
      refine wpAnyK_take0 5 (v := ?v61) rfl (by kernel_rfl) (fun _ _ _ h => h) (Or.inl ⟨by rfl, ?hy61⟩) (fun _ => hHeld) ?_
      case hy61 => (intro w hSw; go_simp; try with_reducible rfl)
      try simp only [Act.put, List.setIfInBounds_toArray, List.set_cons_zero, List.set_cons_succ]
      refine wpAnyK_take0 6 (v := ?v62) rfl (by kernel_rfl) (fun _ _ _ h => h) (Or.inl ⟨by rfl, ?hy62⟩) (fun _ => hHeld) ?_
      case hy62 => (intro w hSw; go_simp; try with_reducible rfl)
      try simp only [Act.put, List.setIfInBounds_toArray, List.set_cons_zero, List.set_cons_succ]
      refine wpAnyK_take0 7 (v := ?v63) rfl (by kernel_rfl) (fun _ _ _ h => h) (Or.inl ⟨by rfl, ?hy63⟩) (fun _ => hHeld) ?_
      case hy63 => (intro w hSw; go_simp; try with_reducible rfl)
      try simp only [Act.put, List.setIfInBounds_toArray, List.set_cons_zero, List.set_cons_succ]
      refine wpAnyK_take0 8 (v := ?v64) rfl (by kernel_rfl) (fun _ _ _ h => h) (Or.inl ⟨by rfl, ?hy64⟩) (fun _ => hHeld) ?_
      case hy64 => (intro w hSw; go_simp; try with_reducible rfl)
      try simp only [Act.put, List.setIfInBounds_toArray, List.set_cons_zero, List.set_cons_succ]
      refine wpAnyK_take0 9 (v := ?v65) rfl (by kernel_rfl) (fun _ _ _ h => h) (Or.inl ⟨by rfl, ?hy65⟩) (fun _ => hHeld) ?_
      case hy65 => (intro w hSw; go_simp; try with_reducible rfl)
      try simp only [Act.put, List.setIfInBounds_toArray, List.set_cons_zero, List.set_cons_succ]
      refine wpAnyK_take 10 [11, 12, 18, 20] (v := ?v66) rfl (by kernel_rfl) (fun _ _ _ h => h) (Or.inl ⟨by rfl, ?hy66⟩) hHeld ?_
      case hy66 => (intro w hSw; (try dsimp only at hSw); go_simp; try with_reducible rfl)
      try simp only [Act.put, List.setIfInBounds_toArray, List.set_cons_zero, List.set_cons_succ]
      refine wpAnyK_take0 11 (v := ?v67) rfl (by kernel_rfl) (fun _ _ _ h => h) (Or.inl ⟨by rfl, ?hy67⟩) (fun _ => hHeld) ?_
      case hy67 => (intro w hSw; go_simp; (try rw [q4]); try with_reducible rfl)
      try simp only [Act.put, List.setIfInBounds_toArray, List.set_cons_zero, List.set_cons_succ]
      refine wpAnyK_take0 12 (v := ?v68) rfl (by kernel_rfl) (fun _ _ _ h => h) (Or.inl ⟨by rfl, ?hy68⟩) (fun _ => hHeld) ?_
      case hy68 => (intro w hSw; go_simp; try with_reducible rfl)
      try simp only [Act.put, List.setIfInBounds_toArray, List.set_cons_zero, List.set_cons_succ]
      refine wpAnyK_take0 13 (v := undef) rfl (by kernel_rfl) (fun _ _ _ h => h) (Or.inr ⟨by rfl, rfl⟩) (fun _ => hHeld) ?_
      try simp only [Act.put, List.setIfInBounds_toArray, List.set_cons_zero, List.set_cons_succ]
      refine wpAnyK_take0 14 (v := undef) rfl (by kernel_rfl) (fun _ _ _ h => h) (Or.inr ⟨by rfl, rfl⟩) (fun _ => hHeld) ?_
      try simp only [Act.put, List.setIfInBounds_toArray, List.set_cons_zero, List.set_cons_succ]
      refine wpAnyK_take0 15 (v := undef) rfl (by kernel_rfl) (fun _ _ _ h => h) (Or.inr ⟨by rfl, rfl⟩) (fun _ => hHeld) ?_
      try simp only [Act.put, List.setIfInBounds_toArray, List.set_cons_zero, List.set_cons_succ]
      refine wpAnyK_take0 16 (v := undef) rfl (by kernel_rfl) (fun _ _ _ h => h) (Or.inr ⟨by rfl, rfl⟩) (fun _ => hHeld) ?_
      try simp only [Act.put, List.setIfInBounds_toArray, List.set_cons_zero, List.set_cons_succ]
      refine wpAnyK_take0 17 (v := undef) rfl (by kernel_rfl) (fun _ _ _ h => h) (Or.inr ⟨by rfl, rfl⟩) (fun _ => hHeld) ?_
      try simp only [Act.put, List.setIfInBounds_toArray, List.set_cons_zero, List.set_cons_succ]
      refine wpAnyK_take0 18 (v := ?v74) rfl (by kernel_rfl) (fun _ _ _ h => h) (Or.inl ⟨by rfl, ?hy74⟩) (fun _ => hHeld) ?_
      case hy74 => (intro w hSw; go_simp; try with_reducible rfl)
      try simp only [Act.put, List.setIfInBounds_toArray, List.set_cons_zero, List.set_cons_succ]
      refine wpAnyK_step 19 rfl (by kernel_rfl) (fun K75 hK => ?_)
      rw [if_pos (by kernel_rfl)]
      refine wp_store_row 25 (.tmp 4) (.tmp 18) rfl w.heap.size (tmC ⟨true, n.int⟩).toArray rfl rfl 25 (tmC tm0).toArray HBox.out hgi rfl (by simp [tmC, Value.oneCell']) ?_
      rw [HWz.out]
      refine hK.out _ _ (fun _ => HSz.out) ?_
      clear hK K75 hHeld
      have hHeld : ((fun (w' : World) => w'.cell? ⟨g, off + i * 6 + 4, none⟩ = some (.int .i64 n.int) ∧ w'.cell? ⟨g, off + i * 6, none⟩ = some (.int .i64 n.kind) ∧ w'.cell? ⟨g, off + i * 6 + 3, none⟩ = some (.bool n.whole))) _ := HSz.out
      try simp only [Act.put]
      refine wpAnyK_step 20 rfl (by kernel_rfl) (fun K76 hK => ?_)
      go_simp
      refine hK.out _ _ (fun h => nomatch (h.symm.trans (show _ = true by kernel_rfl))) ?_
      clear hK K76
      try simp only [Act.put, List.setIfInBounds_toArray, List.set_cons_zero, List.set_cons_succ]
      refine wpAnyK_done (by kernel_rfl) ?_ _
      clear hHeld
      go_wp2
      (try simp only [Exit.inBlock, Exit.then])
      refine bodyPost_ret (v := .tuple #[tmV ⟨true, n.int⟩, .bool false]) (results_tm2 rfl _ _ w.heap.size ⟨true, n.int⟩ _ rfl rfl HBz.out) rfl ⟨?_, Hz.out⟩
      rw [HF2.out, HO2.out]

end Go.Proofs.YthlfboaidhgnlaaGreatDoor

namespace Go.Proofs.YthlfboaidhgnlaaGreatDoor
open Go.RowKit Go.Shelf

set_option maxRecDepth 100000 in
set_option maxHeartbeats 16000000 in
theorem said_early (t : List UInt8) (w : World) (hG : GL w.heap.size w) (hx : (parseF t).2.1 ≠ 0 ∨ ((parseF t).1.getD 0 (nd0 0)).kind ≠ 7) :
    Calls Tryz.prog 5 #[.string ⟨t.toArray⟩] w fun e w' => e = .returned (.bool true) ∧ Below w.heap.size w w' := by
  have HGq : Hid (∀ wq, Below w.heap.size w wq → GL wq.heap.size wq) := fun wq hq => (hG.below hq).up hq.size
  have CA := awake_any w hG
  have hbd := parse_bd t
  obtain ⟨cc, hcc⟩ : ∃ c, (cparseF t).1 = c := ⟨_, rfl⟩
  obtain ⟨ce, hce⟩ : ∃ c, (cparseF t).2 = c := ⟨_, rfl⟩
  have HCP : Hid (∀ wq, Below w.heap.size w wq → Calls Tryz.prog 13 #[.string ⟨t.toArray⟩] wq fun e w' => (∃ va aa, e = .returned (.tuple #[clV va aa cc, .int .i64 (ce : Nat)]) ∧ NO wq.heap.size w' va cc.val ∧ OT wq.heap.size w' aa cc.aud) ∧ Below wq.heap.size wq w') := fun wq hq => by
    have := cparse_any t wq (HGq.out wq hq)
    rw [hcc, hce] at this
    exact this
  have HJP : Hid (∀ wq, Below w.heap.size w wq → Calls Tryz.prog 16 #[.string ⟨t.toArray⟩] wq fun e w' => Below wq.heap.size wq w' ∧ ∃ v, e = .returned (.tuple #[v, .int .i64 ((parseF t).2.1 : Int), .int .i64 ((parseF t).2.2 : Int)]) ∧ NO wq.heap.size w' v (parseF t).1) := fun wq hq => parse_all t wq (HGq.out wq hq)
  have hcb : cc.val.length ≤ 1000000000 ∧ cc.aud.length ≤ 1000000000 := by
    rw [← hcc]
    unfold cparseF
    have h1 := hbd.1
    split
    · exact ⟨Nat.zero_le _, Nat.zero_le _⟩
    · split
      · exact ⟨Nat.zero_le _, Nat.zero_le _⟩
      · split
        · refine ⟨by show (parseF t).1.length ≤ _; omega, ?_⟩
          show (tsF (parseF t).1 kAud).1.length ≤ _
          unfold tsF
          split
          · simp
          · split
            · simp
            · rw [List.length_map]
              have := @kids_len (parseF t).1 (memF (parseF t).1 0 kAud)
              omega
        · exact ⟨Nat.zero_le _, Nat.zero_le _⟩
  obtain ⟨L, hL⟩ : ∃ l, (parseF t).1 = l := ⟨_, rfl⟩
  obtain ⟨f, hf⟩ : ∃ l, (parseF t).2.1 = l := ⟨_, rfl⟩
  obtain ⟨p, hp⟩ : ∃ l, (parseF t).2.2 = l := ⟨_, rfl⟩
  rw [hL, hf, hp] at HJP
  have hbd0 := hbd.1
  rw [hL] at hbd
  have HC : Hid ((f ≠ 0 ∧ cc = cm0 ∧ ce = f) ∨ (f = 0 ∧ (L.getD 0 (nd0 0)).kind ≠ 7 ∧ cc = cm0 ∧ ce = 130 ∧ 0 < L.length)) := by
    show _ ∨ _
    rw [← hcc, ← hce, ← hL, ← hf]
    unfold cparseF
    by_cases h0 : (parseF t).2.1 = 0
    · refine .inr ⟨h0, ?_⟩
      have h7 : ((parseF t).1.getD 0 (nd0 0)).kind ≠ 7 := hx.elim (fun h => absurd h0 h) id
      rw [if_neg (fun h => h h0), if_pos h7]
      exact ⟨h7, rfl, rfl, (all_of (parse_val h0) hbd0).1⟩
    · rw [if_pos h0]
      exact .inl ⟨h0, rfl, rfl⟩
  clear hx hbd0
  clear hG hcc hce hL hf hp HGq
  obtain ⟨cv, ci, chi, cs, chs, ca, cha, cj, chj, ce1, ce2, ce3⟩ := cc
  dsimp only at hcb HCP
  go_enter Tryz.func5, Tryz.ntmps5
  go_wp2_with fail
  refine CA.mono ?_
  clear CA
  rintro e w1 ⟨rfl, hB⟩
  have HB1 : Hid (Below w.heap.size w w1) := hB
  have CP := HCP.out w1 hB
  clear hB HCP
  go_wp2_with fail
  refine CP.mono ?_
  clear CP
  rintro e w2 ⟨⟨va, aa, rfl, hno, hot⟩, hB⟩
  obtain ⟨vA, vC, hcN⟩ := hno.nr
  obtain ⟨e1, _, _⟩ := id hcN
  subst e1
  obtain ⟨aA, aC, e2, hcT⟩ := hot.tr
  subst e2
  have HB2 : Hid (Below w.heap.size w w2) := HB1.out.trans (hB.mono HB1.out.size)
  clear hno hot hB HB1
  unfold clV
  dsimp only at *
  obtain ⟨w3, hw3⟩ : ∃ x, w2.alloc (.cells #[.slice vA cv.length vC, .string ⟨ci.toArray⟩, .bool chi, .string ⟨cs.toArray⟩, .bool chs, .slice aA ca.length aC, .bool cha, .string ⟨cj.toArray⟩, .bool chj, .bool ce1.has, .int .i64 ce1.at_, .bool ce2.has, .int .i64 ce2.at_, .bool ce3.has, .int .i64 ce3.at_] 27) = x := ⟨_, rfl⟩
  have hA3 : Below w2.heap.size w2 w3 := by rw [← hw3]; exact alloc_below _ _
  have hbC : Bl 27 w3 w2.heap.size [.slice vA cv.length vC, .string ⟨ci.toArray⟩, .bool chi, .string ⟨cs.toArray⟩, .bool chs, .slice aA ca.length aC, .bool cha, .string ⟨cj.toArray⟩, .bool chj, .bool ce1.has, .int .i64 ce1.at_, .bool ce2.has, .int .i64 ce2.at_, .bool ce3.has, .int .i64 ce3.at_] := by rw [← hw3]; exact alloc_bl _ _ _
  obtain ⟨bC, hbCe⟩ : ∃ b, w2.heap.size = b := ⟨_, rfl⟩
  rw [hbCe] at hbC
  have HBC : Hid (w2.heap.size = bC) := hbCe
  have HW3 : Hid (w2.alloc (.cells #[.slice vA cv.length vC, .string ⟨ci.toArray⟩, .bool chi, .string ⟨cs.toArray⟩, .bool chs, .slice aA ca.length aC, .bool cha, .string ⟨cj.toArray⟩, .bool chj, .bool ce1.has, .int .i64 ce1.at_, .bool ce2.has, .int .i64 ce2.at_, .bool ce3.has, .int .i64 ce3.at_] 27) = w3) := hw3
  have HB3 : Hid (Below w.heap.size w w3) := HB2.out.trans (hA3.mono HB2.out.size)
  have HcN : Hid (∀ wq, Below w3.heap.size w3 wq → NR wq (.slice vA cv.length vC) cv vA vC) := fun wq hq => (hcN.below hA3 (Nat.le_refl _)).below hq (Nat.le_refl _)
  have HcT : Hid (∀ wq, Below w3.heap.size w3 wq → TR wq (.slice aA ca.length aC) ca aA aC) := fun wq hq => (hcT.below hA3 (Nat.le_refl _)).below hq (Nat.le_refl _)
  have HRC : Hid (∀ wq, Below w3.heap.size w3 wq → wq.rangeAt bC 0 [.slice vA cv.length vC, .string ⟨ci.toArray⟩, .bool chi, .string ⟨cs.toArray⟩, .bool chs, .slice aA ca.length aC, .bool cha, .string ⟨cj.toArray⟩, .bool chj, .bool ce1.has, .int .i64 ce1.at_, .bool ce2.has, .int .i64 ce2.at_, .bool ce3.has, .int .i64 ce3.at_]) := fun wq hq j v hv => by
    obtain ⟨hj, e⟩ := List.getElem?_eq_some_iff.1 hv
    rw [Nat.zero_add, ← e]
    exact (hbC.below hq hbC.lt).cell j hj
  have hcl : (Tryz.prog.info? 27).map (·.size) = some ([.slice vA cv.length vC, .string ⟨ci.toArray⟩, .bool chi, .string ⟨cs.toArray⟩, .bool chs, .slice aA ca.length aC, .bool cha, .string ⟨cj.toArray⟩, .bool chj, .bool ce1.has, .int .i64 ce1.at_, .bool ce2.has, .int .i64 ce2.at_, .bool ce3.has, .int .i64 ce3.at_] : List Value).length := by kernel_rfl
  have CJ := HJP.out w3 HB3.out
  clear hw3 hA3 hbC hbCe hcN hcT HJP
  go_wp2_with fail
  rw [HBC.out, HW3.out]
  clear HBC HW3
  refine CJ.mono ?_
  clear CJ
  rintro e w4 ⟨hB, v, rfl, hno⟩
  obtain ⟨ao, cap, hN⟩ := hno.nr
  obtain ⟨e1, hcap, _⟩ := id hN
  subst e1
  have HY4 : Hid (Below w3.heap.size w3 w4) := hB
  have HN4 : Hid (NR w4 (.slice ao L.length cap) L ao cap) := hN
  have CE : Calls Tryz.prog 14 #[.agg #[.slice vA cv.length vC, .string ⟨ci.toArray⟩, .bool chi, .string ⟨cs.toArray⟩, .bool chs, .slice aA ca.length aC, .bool cha, .string ⟨cj.toArray⟩, .bool chj, .bool ce1.has, .int .i64 ce1.at_, .bool ce2.has, .int .i64 ce2.at_, .bool ce3.has, .int .i64 ce3.at_], .agg #[.slice none 0 0, .string ⟨#[]⟩, .bool false, .string ⟨#[]⟩, .bool false, .slice none 0 0, .bool false, .string ⟨#[]⟩, .bool false, .bool false, .int .i64 0, .bool false, .int .i64 0, .bool false, .int .i64 0]] w4 fun e w' => (∃ b, e = .returned (.bool b) ∧ ((⟨cv, ci, chi, cs, chs, ca, cha, cj, chj, ce1, ce2, ce3⟩ : Cm) = cm0 → b = true)) ∧ Below w4.heap.size w4 w' := by
    by_cases h0 : (⟨cv, ci, chi, cs, chs, ca, cha, cj, chj, ce1, ce2, ce3⟩ : Cm) = cm0
    · have h1 := csame_eq vA vC aA aC none 0 none 0 ⟨cv, ci, chi, cs, chs, ca, cha, cj, chj, ce1, ce2, ce3⟩ w4 (HcN.out w4 hB) (HcT.out w4 hB) (by rw [show cv = ([] : List Nd) from congrArg Cm.val h0]; exact ⟨rfl, Nat.le_refl _, .inl rfl⟩) (by rw [show ca = ([] : List (List UInt8)) from congrArg Cm.aud h0]; exact ⟨rfl, Nat.le_refl _, .inl rfl⟩) hcb.1 (Nat.le_trans hcb.2 (by decide))
      have h2 : clV (.slice none cv.length 0) (.slice none ca.length 0) ⟨cv, ci, chi, cs, chs, ca, cha, cj, chj, ce1, ce2, ce3⟩ = .agg #[.slice none 0 0, .string ⟨#[]⟩, .bool false, .string ⟨#[]⟩, .bool false, .slice none 0 0, .bool false, .string ⟨#[]⟩, .bool false, .bool false, .int .i64 0, .bool false, .int .i64 0, .bool false, .int .i64 0] := by
        rw [show cv.length = 0 from by rw [show cv = ([] : List Nd) from congrArg Cm.val h0]; rfl, show ca.length = 0 from by rw [show ca = ([] : List (List UInt8)) from congrArg Cm.aud h0]; rfl, h0]
        rfl
      rw [show clV (.slice none (⟨cv, ci, chi, cs, chs, ca, cha, cj, chj, ce1, ce2, ce3⟩ : Cm).val.length 0) (.slice none (⟨cv, ci, chi, cs, chs, ca, cha, cj, chj, ce1, ce2, ce3⟩ : Cm).aud.length 0) ⟨cv, ci, chi, cs, chs, ca, cha, cj, chj, ce1, ce2, ce3⟩ = .agg #[.slice none 0 0, .string ⟨#[]⟩, .bool false, .string ⟨#[]⟩, .bool false, .slice none 0 0, .bool false, .string ⟨#[]⟩, .bool false, .bool false, .int .i64 0, .bool false, .int .i64 0, .bool false, .int .i64 0] from h2] at h1
      exact h1.mono (fun _ _ h => ⟨⟨true, h.1, fun _ => rfl⟩, h.2⟩)
    · have h1 := csame_some vA vC aA aC none 0 none 0 ⟨cv, ci, chi, cs, chs, ca, cha, cj, chj, ce1, ce2, ce3⟩ cm0 w4 (HcN.out w4 hB) (HcT.out w4 hB) ⟨rfl, Nat.le_refl _, .inl rfl⟩ ⟨rfl, Nat.le_refl _, .inl rfl⟩ hcb.1 (Nat.le_trans hcb.2 (by decide))
      exact h1.mono (fun _ _ ⟨⟨b, hb⟩, h⟩ => ⟨⟨b, hb, fun h => absurd h h0⟩, h⟩)
  have HR4 := HRC.out w4 hB
  clear hB hno hN
  go_wp2_with (refine wpList_load_mid rfl 27 (.tmp 3) rfl bC 0 rfl [.slice vA cv.length vC, .string ⟨ci.toArray⟩, .bool chi, .string ⟨cs.toArray⟩, .bool chs, .slice aA ca.length aC, .bool cha, .string ⟨cj.toArray⟩, .bool chj, .bool ce1.has, .int .i64 ce1.at_, .bool ce2.has, .int .i64 ce2.at_, .bool ce3.has, .int .i64 ce3.at_] _ HR4 Tryz.underlying27 rfl hcl ?_)
  refine CE.mono ?_
  clear CE HR4
  rintro e w5 ⟨⟨b, rfl, hb⟩, hB⟩
  have HY5 : Hid (Below w3.heap.size w3 w5) := HY4.out.trans (hB.mono HY4.out.size)
  have HN5 : Hid (NR w5 (.slice ao L.length cap) L ao cap) := HN4.out.below hB (Nat.le_refl _)
  have HB5 : Hid (Below w.heap.size w w5) := HB3.out.trans (HY5.out.mono HB3.out.size)
  have Hb : Hid ((⟨cv, ci, chi, cs, chs, ca, cha, cj, chj, ce1, ce2, ce3⟩ : Cm) = cm0 → b = true) := hb
  clear hB HY4 HN4 hb
  rcases HC.out with ⟨hf0, hc0, rfl⟩ | ⟨hf0, h7, hc0, rfl, hpos⟩
  · obtain rfl := Hb.out hc0
    have qf : ((ce : Int) != 0) = true := by simp; omega
    have qe : ((ce : Int) == (ce : Int)) = true := by simp
    clear hf0 hc0 HC
    go_wp2
    go_ret
    exact ⟨rfl, HB5.out⟩
  · subst hf0
    obtain rfl := Hb.out hc0
    obtain ⟨g, off, rfl, hcell⟩ := HN5.out.at hpos
    obtain ⟨K, hK⟩ : ∃ K, (L.getD 0 (nd0 0)).kind = K := ⟨_, rfl⟩
    have ck := hcell 0 (.int .i64 K) (by omega) (by rw [← hK]; rfl)
    simp only [Nat.zero_mul, Nat.add_zero] at ck
    rw [hK] at h7
    have q7 : (K != 7) = true := by simpa using h7
    have hbv : 0 < (L.length : Int) := by omega
    clear hcell hK h7 hc0 HC
    go_wp2
    go_ret
    exact ⟨rfl, HB5.out⟩

end Go.Proofs.YthlfboaidhgnlaaGreatDoor

namespace Go.Proofs.YthlfboaidhgnlaaGreatDoor
open Go.RowKit Go.Shelf

set_option maxRecDepth 100000 in
set_option maxHeartbeats 16000000 in
theorem said_none (t : List UInt8) (w : World) (hG : GL w.heap.size w) (hf0 : (parseF t).2.1 = 0) (h70 : ((parseF t).1.getD 0 (nd0 0)).kind = 7) (hka : memF (parseF t).1 0 kAud = -1) :
    Calls Tryz.prog 5 #[.string ⟨t.toArray⟩] w fun e w' => e = .returned (.bool true) ∧ Below w.heap.size w w' := by
  have HGq : Hid (∀ wq, Below w.heap.size w wq → GL wq.heap.size wq) := fun wq hq => (hG.below hq).up hq.size
  have CA := awake_any w hG
  have hbd := parse_bd t
  obtain ⟨cc, hcc⟩ : ∃ c, (cparseF t).1 = c := ⟨_, rfl⟩
  obtain ⟨ce, hce⟩ : ∃ c, (cparseF t).2 = c := ⟨_, rfl⟩
  have HCP : Hid (∀ wq, Below w.heap.size w wq → Calls Tryz.prog 13 #[.string ⟨t.toArray⟩] wq fun e w' => (∃ va aa, e = .returned (.tuple #[clV va aa cc, .int .i64 (ce : Nat)]) ∧ NO wq.heap.size w' va cc.val ∧ OT wq.heap.size w' aa cc.aud) ∧ Below wq.heap.size wq w') := fun wq hq => by
    have := cparse_any t wq (HGq.out wq hq)
    rw [hcc, hce] at this
    exact this
  have HJP : Hid (∀ wq, Below w.heap.size w wq → Calls Tryz.prog 16 #[.string ⟨t.toArray⟩] wq fun e w' => Below wq.heap.size wq w' ∧ ∃ v, e = .returned (.tuple #[v, .int .i64 ((parseF t).2.1 : Int), .int .i64 ((parseF t).2.2 : Int)]) ∧ NO wq.heap.size w' v (parseF t).1) := fun wq hq => parse_all t wq (HGq.out wq hq)
  have hcb : cc.val.length ≤ 1000000000 ∧ cc.aud.length ≤ 1000000000 := by
    rw [← hcc]
    unfold cparseF
    have h1 := hbd.1
    split
    · exact ⟨Nat.zero_le _, Nat.zero_le _⟩
    · split
      · exact ⟨Nat.zero_le _, Nat.zero_le _⟩
      · split
        · refine ⟨by show (parseF t).1.length ≤ _; omega, ?_⟩
          show (tsF (parseF t).1 kAud).1.length ≤ _
          unfold tsF
          split
          · simp
          · split
            · simp
            · rw [List.length_map]
              have := @kids_len (parseF t).1 (memF (parseF t).1 0 kAud)
              omega
        · exact ⟨Nat.zero_le _, Nat.zero_le _⟩
  obtain ⟨L, hL⟩ : ∃ l, (parseF t).1 = l := ⟨_, rfl⟩
  obtain ⟨f, hf⟩ : ∃ l, (parseF t).2.1 = l := ⟨_, rfl⟩
  obtain ⟨p, hp⟩ : ∃ l, (parseF t).2.2 = l := ⟨_, rfl⟩
  rw [hL, hf, hp] at HJP
  rw [hL] at hbd
  have HF0 : Hid (f = 0) := by rw [← hf]; exact hf0
  have hbd0 := hbd.1
  have HSQ : Sq 0 [[]] L := by rw [← hL]; exact parse_val hf0
  have hpos : 0 < L.length := (all_of HSQ hbd0).1
  have h7 : (L.getD 0 (nd0 0)).kind = 7 := by rw [← hL]; exact h70
  have HOK : Hid ((okF L = true ∧ cc = saidF L ∧ ce = 0) ∨ (okF L = false ∧ cc = cm0 ∧ ce = 131)) := by
    show _ ∨ _
    rw [ok_all HSQ hbd0 h7, ← hcc, ← hce, ← hL]
    unfold cparseF
    rw [if_neg (fun h => h hf0), if_neg (fun h => h h70)]
    cases hz : (kidsF (parseF t).1 0).all (fitF (parseF t).1)
    · exact .inr ⟨rfl, rfl, rfl⟩
    · exact .inl ⟨rfl, rfl, rfl⟩
  have HSF : Hid (saidF L = ⟨L, (txF L kIss).1, (txF L kIss).2, (txF L kSub).1, (txF L kSub).2, (tsF L kAud).1, (tsF L kAud).2, (txF L kJti).1, (txF L kJti).2, moF L kExp, moF L kNbf, moF L kIat⟩) := rfl
  have HOF : Hid (okF L = (okT L kIss && okT L kSub && okT L kJti && okM L kExp && okM L kNbf && okM L kIat && okA L kAud)) := rfl
  have hk : memF L 0 kAud = -1 := by rw [← hL]; exact hka
  have HTS : Hid (tsF L kAud = ([], false) ∧ okA L kAud = true) := by
    refine ⟨?_, ?_⟩
    · unfold tsF; rw [hk]; exact if_pos (by decide)
    · unfold okA; rw [hk]; simp
  clear HSQ hf0 h70
  clear hG hcc hce hL hf hp HGq
  obtain ⟨cv, ci, chi, cs, chs, ca, cha, cj, chj, ce1, ce2, ce3⟩ := cc
  dsimp only at hcb HCP
  go_enter Tryz.func5, Tryz.ntmps5
  go_wp2_with fail
  refine CA.mono ?_
  clear CA
  rintro e w1 ⟨rfl, hB⟩
  have HB1 : Hid (Below w.heap.size w w1) := hB
  have CP := HCP.out w1 hB
  clear hB HCP
  go_wp2_with fail
  refine CP.mono ?_
  clear CP
  rintro e w2 ⟨⟨va, aa, rfl, hno, hot⟩, hB⟩
  obtain ⟨vA, vC, hcN⟩ := hno.nr
  obtain ⟨e1, _, _⟩ := id hcN
  subst e1
  obtain ⟨aA, aC, e2, hcT⟩ := hot.tr
  subst e2
  have HB2 : Hid (Below w.heap.size w w2) := HB1.out.trans (hB.mono HB1.out.size)
  clear hno hot hB HB1
  unfold clV
  dsimp only at *
  obtain ⟨w3, hw3⟩ : ∃ x, w2.alloc (.cells #[.slice vA cv.length vC, .string ⟨ci.toArray⟩, .bool chi, .string ⟨cs.toArray⟩, .bool chs, .slice aA ca.length aC, .bool cha, .string ⟨cj.toArray⟩, .bool chj, .bool ce1.has, .int .i64 ce1.at_, .bool ce2.has, .int .i64 ce2.at_, .bool ce3.has, .int .i64 ce3.at_] 27) = x := ⟨_, rfl⟩
  have hA3 : Below w2.heap.size w2 w3 := by rw [← hw3]; exact alloc_below _ _
  have hbC : Bl 27 w3 w2.heap.size [.slice vA cv.length vC, .string ⟨ci.toArray⟩, .bool chi, .string ⟨cs.toArray⟩, .bool chs, .slice aA ca.length aC, .bool cha, .string ⟨cj.toArray⟩, .bool chj, .bool ce1.has, .int .i64 ce1.at_, .bool ce2.has, .int .i64 ce2.at_, .bool ce3.has, .int .i64 ce3.at_] := by rw [← hw3]; exact alloc_bl _ _ _
  obtain ⟨bC, hbCe⟩ : ∃ b, w2.heap.size = b := ⟨_, rfl⟩
  rw [hbCe] at hbC
  have HBC : Hid (w2.heap.size = bC) := hbCe
  have HW3 : Hid (w2.alloc (.cells #[.slice vA cv.length vC, .string ⟨ci.toArray⟩, .bool chi, .string ⟨cs.toArray⟩, .bool chs, .slice aA ca.length aC, .bool cha, .string ⟨cj.toArray⟩, .bool chj, .bool ce1.has, .int .i64 ce1.at_, .bool ce2.has, .int .i64 ce2.at_, .bool ce3.has, .int .i64 ce3.at_] 27) = w3) := hw3
  have HB3 : Hid (Below w.heap.size w w3) := HB2.out.trans (hA3.mono HB2.out.size)
  have HcN : Hid (∀ wq, Below w3.heap.size w3 wq → NR wq (.slice vA cv.length vC) cv vA vC) := fun wq hq => (hcN.below hA3 (Nat.le_refl _)).below hq (Nat.le_refl _)
  have HcT : Hid (∀ wq, Below w3.heap.size w3 wq → TR wq (.slice aA ca.length aC) ca aA aC) := fun wq hq => (hcT.below hA3 (Nat.le_refl _)).below hq (Nat.le_refl _)
  have HRC : Hid (∀ wq, Below w3.heap.size w3 wq → wq.rangeAt bC 0 [.slice vA cv.length vC, .string ⟨ci.toArray⟩, .bool chi, .string ⟨cs.toArray⟩, .bool chs, .slice aA ca.length aC, .bool cha, .string ⟨cj.toArray⟩, .bool chj, .bool ce1.has, .int .i64 ce1.at_, .bool ce2.has, .int .i64 ce2.at_, .bool ce3.has, .int .i64 ce3.at_]) := fun wq hq j v hv => by
    obtain ⟨hj, e⟩ := List.getElem?_eq_some_iff.1 hv
    rw [Nat.zero_add, ← e]
    exact (hbC.below hq hbC.lt).cell j hj
  have hcl : (Tryz.prog.info? 27).map (·.size) = some ([.slice vA cv.length vC, .string ⟨ci.toArray⟩, .bool chi, .string ⟨cs.toArray⟩, .bool chs, .slice aA ca.length aC, .bool cha, .string ⟨cj.toArray⟩, .bool chj, .bool ce1.has, .int .i64 ce1.at_, .bool ce2.has, .int .i64 ce2.at_, .bool ce3.has, .int .i64 ce3.at_] : List Value).length := by kernel_rfl
  have CJ := HJP.out w3 HB3.out
  clear hw3 hA3 hbC hbCe hcN hcT HJP
  go_wp2_with fail
  rw [HBC.out, HW3.out]
  clear HBC HW3
  refine CJ.mono ?_
  clear CJ
  rintro e w4 ⟨hB, v, rfl, hno⟩
  obtain ⟨ao, cap, hN⟩ := hno.nr
  obtain ⟨e1, hcap, _⟩ := id hN
  subst e1
  have HY4 : Hid (Below w3.heap.size w3 w4) := hB
  have HN4 : Hid (NR w4 (.slice ao L.length cap) L ao cap) := hN
  have CE : Calls Tryz.prog 14 #[.agg #[.slice vA cv.length vC, .string ⟨ci.toArray⟩, .bool chi, .string ⟨cs.toArray⟩, .bool chs, .slice aA ca.length aC, .bool cha, .string ⟨cj.toArray⟩, .bool chj, .bool ce1.has, .int .i64 ce1.at_, .bool ce2.has, .int .i64 ce2.at_, .bool ce3.has, .int .i64 ce3.at_], .agg #[.slice none 0 0, .string ⟨#[]⟩, .bool false, .string ⟨#[]⟩, .bool false, .slice none 0 0, .bool false, .string ⟨#[]⟩, .bool false, .bool false, .int .i64 0, .bool false, .int .i64 0, .bool false, .int .i64 0]] w4 fun e w' => (∃ b, e = .returned (.bool b) ∧ ((⟨cv, ci, chi, cs, chs, ca, cha, cj, chj, ce1, ce2, ce3⟩ : Cm) = cm0 → b = true)) ∧ Below w4.heap.size w4 w' := by
    by_cases h0 : (⟨cv, ci, chi, cs, chs, ca, cha, cj, chj, ce1, ce2, ce3⟩ : Cm) = cm0
    · have h1 := csame_eq vA vC aA aC none 0 none 0 ⟨cv, ci, chi, cs, chs, ca, cha, cj, chj, ce1, ce2, ce3⟩ w4 (HcN.out w4 hB) (HcT.out w4 hB) (by rw [show cv = ([] : List Nd) from congrArg Cm.val h0]; exact ⟨rfl, Nat.le_refl _, .inl rfl⟩) (by rw [show ca = ([] : List (List UInt8)) from congrArg Cm.aud h0]; exact ⟨rfl, Nat.le_refl _, .inl rfl⟩) hcb.1 (Nat.le_trans hcb.2 (by decide))
      have h2 : clV (.slice none cv.length 0) (.slice none ca.length 0) ⟨cv, ci, chi, cs, chs, ca, cha, cj, chj, ce1, ce2, ce3⟩ = .agg #[.slice none 0 0, .string ⟨#[]⟩, .bool false, .string ⟨#[]⟩, .bool false, .slice none 0 0, .bool false, .string ⟨#[]⟩, .bool false, .bool false, .int .i64 0, .bool false, .int .i64 0, .bool false, .int .i64 0] := by
        rw [show cv.length = 0 from by rw [show cv = ([] : List Nd) from congrArg Cm.val h0]; rfl, show ca.length = 0 from by rw [show ca = ([] : List (List UInt8)) from congrArg Cm.aud h0]; rfl, h0]
        rfl
      rw [show clV (.slice none (⟨cv, ci, chi, cs, chs, ca, cha, cj, chj, ce1, ce2, ce3⟩ : Cm).val.length 0) (.slice none (⟨cv, ci, chi, cs, chs, ca, cha, cj, chj, ce1, ce2, ce3⟩ : Cm).aud.length 0) ⟨cv, ci, chi, cs, chs, ca, cha, cj, chj, ce1, ce2, ce3⟩ = .agg #[.slice none 0 0, .string ⟨#[]⟩, .bool false, .string ⟨#[]⟩, .bool false, .slice none 0 0, .bool false, .string ⟨#[]⟩, .bool false, .bool false, .int .i64 0, .bool false, .int .i64 0, .bool false, .int .i64 0] from h2] at h1
      exact h1.mono (fun _ _ h => ⟨⟨true, h.1, fun _ => rfl⟩, h.2⟩)
    · have h1 := csame_some vA vC aA aC none 0 none 0 ⟨cv, ci, chi, cs, chs, ca, cha, cj, chj, ce1, ce2, ce3⟩ cm0 w4 (HcN.out w4 hB) (HcT.out w4 hB) ⟨rfl, Nat.le_refl _, .inl rfl⟩ ⟨rfl, Nat.le_refl _, .inl rfl⟩ hcb.1 (Nat.le_trans hcb.2 (by decide))
      exact h1.mono (fun _ _ ⟨⟨b, hb⟩, h⟩ => ⟨⟨b, hb, fun h => absurd h h0⟩, h⟩)
  have HR4 := HRC.out w4 hB
  clear hB hno hN
  go_wp2_with (refine wpList_load_mid rfl 27 (.tmp 3) rfl bC 0 rfl [.slice vA cv.length vC, .string ⟨ci.toArray⟩, .bool chi, .string ⟨cs.toArray⟩, .bool chs, .slice aA ca.length aC, .bool cha, .string ⟨cj.toArray⟩, .bool chj, .bool ce1.has, .int .i64 ce1.at_, .bool ce2.has, .int .i64 ce2.at_, .bool ce3.has, .int .i64 ce3.at_] _ HR4 Tryz.underlying27 rfl hcl ?_)
  refine CE.mono ?_
  clear CE HR4
  rintro e w5 ⟨⟨b, rfl, hb⟩, hB⟩
  have HY5 : Hid (Below w3.heap.size w3 w5) := HY4.out.trans (hB.mono HY4.out.size)
  have HN5 : Hid (NR w5 (.slice ao L.length cap) L ao cap) := HN4.out.below hB (Nat.le_refl _)
  have HB5 : Hid (Below w.heap.size w w5) := HB3.out.trans (HY5.out.mono HB3.out.size)
  have Hb : Hid ((⟨cv, ci, chi, cs, chs, ca, cha, cj, chj, ce1, ce2, ce3⟩ : Cm) = cm0 → b = true) := hb
  clear hB HY4 HN4 hb
  obtain rfl := HF0.out
  clear HF0 hka
  have HQ : Hid (Below w5.heap.size w5 w5) := Below.refl _ _
  obtain ⟨g, off, rfl, hcell⟩ := HN5.out.at hpos
  have ck := hcell 0 (.int .i64 7) (by omega) (by rw [← h7]; rfl)
  simp only [Nat.zero_mul, Nat.add_zero] at ck
  have hbv : 0 < (L.length : Int) := by omega
  have HNq : Hid (∀ wq, Below w5.heap.size w5 wq → NR wq (.slice (some ⟨g, off, none⟩) L.length cap) L (some ⟨g, off, none⟩) cap) := fun wq hq => HN5.out.below hq (Nat.le_refl _)
  have HS1 : Hid (∀ k wq, Below w5.heap.size w5 wq → Calls Tryz.prog 17 #[.slice (some ⟨g, off, none⟩) L.length cap, .string ⟨k.toArray⟩] wq fun e w' => e = .returned (.tuple #[.string ⟨(txF L k).1.toArray⟩, .bool (txF L k).2, .bool (okT L k)]) ∧ Below wq.heap.size wq w') := fun k wq hq => string1_any L _ cap k wq (HNq.out wq hq) (by omega)
  have HS2 : Hid (∀ k wq, Below w5.heap.size w5 wq → Calls Tryz.prog 18 #[.slice (some ⟨g, off, none⟩) L.length cap, .string ⟨k.toArray⟩] wq fun e w' => e = .returned (.tuple #[tmV (moF L k), .bool (okM L k)]) ∧ Below wq.heap.size wq w') := fun k wq hq => whole_any9 L _ cap k wq (HNq.out wq hq) (by omega)
  have HMe : Hid (∀ wq, Below w5.heap.size w5 wq → Calls Tryz.prog 19 #[.slice (some ⟨g, off, none⟩) L.length cap, .int .i64 0, .string ⟨kAud.toArray⟩] wq fun e w' => e = .returned (.int .i64 (memF L 0 kAud)) ∧ Below wq.heap.size wq w') := fun wq hq => member_any _ L _ cap 0 kAud wq (HNq.out wq hq) (by omega)
  have HC1 := HS1.out kIss
  have HC2 := HS1.out kSub
  have HC3 := HS1.out kJti
  have HC4 := HS2.out kExp
  have HC5 := HS2.out kNbf
  have HC6 := HS2.out kIat
  rw [HSF.out] at HOK
  rw [HOF.out] at HOK
  obtain ⟨i1, hi1⟩ : ∃ x, (txF L kIss).1 = x := ⟨_, rfl⟩
  obtain ⟨h1, hh1⟩ : ∃ x, (txF L kIss).2 = x := ⟨_, rfl⟩
  obtain ⟨o1, ho1⟩ : ∃ x, okT L kIss = x := ⟨_, rfl⟩
  rw [hi1, hh1, ho1] at HC1
  rw [hi1, hh1, ho1] at HOK
  obtain ⟨i2, hi2⟩ : ∃ x, (txF L kSub).1 = x := ⟨_, rfl⟩
  obtain ⟨h2, hh2⟩ : ∃ x, (txF L kSub).2 = x := ⟨_, rfl⟩
  obtain ⟨o2, ho2⟩ : ∃ x, okT L kSub = x := ⟨_, rfl⟩
  rw [hi2, hh2, ho2] at HC2
  rw [hi2, hh2, ho2] at HOK
  obtain ⟨i3, hi3⟩ : ∃ x, (txF L kJti).1 = x := ⟨_, rfl⟩
  obtain ⟨h3, hh3⟩ : ∃ x, (txF L kJti).2 = x := ⟨_, rfl⟩
  obtain ⟨o3, ho3⟩ : ∃ x, okT L kJti = x := ⟨_, rfl⟩
  rw [hi3, hh3, ho3] at HC3
  rw [hi3, hh3, ho3] at HOK
  obtain ⟨m4, hm4⟩ : ∃ x, moF L kExp = x := ⟨_, rfl⟩
  obtain ⟨o4, ho4⟩ : ∃ x, okM L kExp = x := ⟨_, rfl⟩
  rw [hm4, ho4] at HC4
  rw [hm4, ho4] at HOK
  obtain ⟨m5, hm5⟩ : ∃ x, moF L kNbf = x := ⟨_, rfl⟩
  obtain ⟨o5, ho5⟩ : ∃ x, okM L kNbf = x := ⟨_, rfl⟩
  rw [hm5, ho5] at HC5
  rw [hm5, ho5] at HOK
  obtain ⟨m6, hm6⟩ : ∃ x, moF L kIat = x := ⟨_, rfl⟩
  obtain ⟨o6, ho6⟩ : ∃ x, okM L kIat = x := ⟨_, rfl⟩
  rw [hm6, ho6] at HC6
  rw [hm6, ho6] at HOK
  have HD1 : Hid _ := HC1
  have HD2 : Hid _ := HC2
  have HD3 : Hid _ := HC3
  have HD4 : Hid _ := HC4
  have HD5 : Hid _ := HC5
  have HD6 : Hid _ := HC6
  clear HS1 HS2 HSF HOF hcell HC1 ho1 HC2 ho2 HC3 ho3 HC4 ho4 HC5 ho5 HC6 ho6 hi1 hh1 hi2 hh2 hi3 hh3 hm4 hm5 hm6
  rw [HTS.out.1, HTS.out.2] at HOK
  rw [hk] at HMe
  clear HTS hk
  have C0 := HD1.out w5 HQ.out
  clear HD1
  go_wp2_with fail
  refine C0.mono ?_
  clear C0 ck
  rintro e y1 ⟨rfl, hB⟩
  have HQn : Hid (Below w5.heap.size w5 y1) := HQ.out.trans (hB.mono HQ.out.size)
  clear HQ hB
  have HQ := HQn
  clear HQn
  have C0 := HD2.out y1 HQ.out
  clear HD2
  go_wp2_with fail
  refine C0.mono ?_
  clear C0
  rintro e y2 ⟨rfl, hB⟩
  have HQn : Hid (Below w5.heap.size w5 y2) := HQ.out.trans (hB.mono HQ.out.size)
  clear HQ hB
  have HQ := HQn
  clear HQn
  have C0 := HD3.out y2 HQ.out
  clear HD3
  go_wp2_with fail
  refine C0.mono ?_
  clear C0
  rintro e y3 ⟨rfl, hB⟩
  have HQn : Hid (Below w5.heap.size w5 y3) := HQ.out.trans (hB.mono HQ.out.size)
  clear HQ hB
  have HQ := HQn
  clear HQn
  have C0 := HD4.out y3 HQ.out
  clear HD4
  go_wp2_with fail
  refine C0.mono ?_
  clear C0
  rintro e y4 ⟨rfl, hB⟩
  have HQn : Hid (Below w5.heap.size w5 y4) := HQ.out.trans (hB.mono HQ.out.size)
  clear HQ hB
  have HQ := HQn
  clear HQn
  unfold tmV
  obtain ⟨z4, hz⟩ : ∃ x, y4.alloc (.cells #[.bool m4.has, .int .i64 m4.at_] 25) = x := ⟨_, rfl⟩
  have hA : Below y4.heap.size y4 z4 := by rw [← hz]; exact alloc_below _ _
  obtain ⟨b4, hbe⟩ : ∃ b, y4.heap.size = b := ⟨_, rfl⟩
  have hX : Bl 25 z4 y4.heap.size (tmC m4) := by rw [← hz]; exact alloc_bl _ _ _
  rw [hbe] at hX
  have HX4 : Hid (Bl 25 z4 b4 (tmC m4)) := hX
  have HQn : Hid (Below w5.heap.size w5 z4) := HQ.out.trans (hA.mono HQ.out.size)
  have HWt : Hid (y4.alloc (.cells #[.bool m4.has, .int .i64 m4.at_] 25) = z4) := hz
  have HBe4 : Hid (y4.heap.size = b4) := hbe
  clear HQ hA hX hz hbe
  have HQ := HQn
  clear HQn
  have C0 := HD5.out z4 HQ.out
  clear HD5
  go_wp2_with fail
  rw [HWt.out]
  clear HWt
  refine C0.mono ?_
  clear C0
  rintro e y5 ⟨rfl, hB⟩
  have HQn : Hid (Below w5.heap.size w5 y5) := HQ.out.trans (hB.mono HQ.out.size)
  have HX4n : Hid (Bl 25 y5 b4 (tmC m4)) := HX4.out.below hB HX4.out.lt
  clear HX4
  have HX4 := HX4n
  clear HX4n
  clear HQ hB
  have HQ := HQn
  clear HQn
  unfold tmV
  obtain ⟨z5, hz⟩ : ∃ x, y5.alloc (.cells #[.bool m5.has, .int .i64 m5.at_] 25) = x := ⟨_, rfl⟩
  have hA : Below y5.heap.size y5 z5 := by rw [← hz]; exact alloc_below _ _
  obtain ⟨b5, hbe⟩ : ∃ b, y5.heap.size = b := ⟨_, rfl⟩
  have hX : Bl 25 z5 y5.heap.size (tmC m5) := by rw [← hz]; exact alloc_bl _ _ _
  rw [hbe] at hX
  have HX5 : Hid (Bl 25 z5 b5 (tmC m5)) := hX
  have HX4n : Hid (Bl 25 z5 b4 (tmC m4)) := HX4.out.below hA HX4.out.lt
  clear HX4
  have HX4 := HX4n
  clear HX4n
  have HQn : Hid (Below w5.heap.size w5 z5) := HQ.out.trans (hA.mono HQ.out.size)
  have HWt : Hid (y5.alloc (.cells #[.bool m5.has, .int .i64 m5.at_] 25) = z5) := hz
  have HBe5 : Hid (y5.heap.size = b5) := hbe
  clear HQ hA hX hz hbe
  have HQ := HQn
  clear HQn
  have C0 := HD6.out z5 HQ.out
  clear HD6
  go_wp2_with fail
  rw [HWt.out]
  clear HWt
  refine C0.mono ?_
  clear C0
  rintro e y6 ⟨rfl, hB⟩
  have HQn : Hid (Below w5.heap.size w5 y6) := HQ.out.trans (hB.mono HQ.out.size)
  have HX4n : Hid (Bl 25 y6 b4 (tmC m4)) := HX4.out.below hB HX4.out.lt
  clear HX4
  have HX4 := HX4n
  clear HX4n
  have HX5n : Hid (Bl 25 y6 b5 (tmC m5)) := HX5.out.below hB HX5.out.lt
  clear HX5
  have HX5 := HX5n
  clear HX5n
  clear HQ hB
  have HQ := HQn
  clear HQn
  unfold tmV
  obtain ⟨z6, hz⟩ : ∃ x, y6.alloc (.cells #[.bool m6.has, .int .i64 m6.at_] 25) = x := ⟨_, rfl⟩
  have hA : Below y6.heap.size y6 z6 := by rw [← hz]; exact alloc_below _ _
  obtain ⟨b6, hbe⟩ : ∃ b, y6.heap.size = b := ⟨_, rfl⟩
  have hX : Bl 25 z6 y6.heap.size (tmC m6) := by rw [← hz]; exact alloc_bl _ _ _
  rw [hbe] at hX
  have HX6 : Hid (Bl 25 z6 b6 (tmC m6)) := hX
  have HX4n : Hid (Bl 25 z6 b4 (tmC m4)) := HX4.out.below hA HX4.out.lt
  clear HX4
  have HX4 := HX4n
  clear HX4n
  have HX5n : Hid (Bl 25 z6 b5 (tmC m5)) := HX5.out.below hA HX5.out.lt
  clear HX5
  have HX5 := HX5n
  clear HX5n
  have HQn : Hid (Below w5.heap.size w5 z6) := HQ.out.trans (hA.mono HQ.out.size)
  have HWt : Hid (y6.alloc (.cells #[.bool m6.has, .int .i64 m6.at_] 25) = z6) := hz
  have HBe6 : Hid (y6.heap.size = b6) := hbe
  clear HQ hA hX hz hbe
  have HQ := HQn
  clear HQn
  have C0 := HMe.out z6 HQ.out
  clear HMe
  go_wp2_with fail
  rw [HBe4.out, HBe5.out, HBe6.out, HWt.out]
  clear HWt HBe4 HBe5 HBe6
  refine C0.mono ?_
  clear C0
  rintro e x0 ⟨rfl, hB⟩
  have HQn : Hid (Below w5.heap.size w5 x0) := HQ.out.trans (hB.mono HQ.out.size)
  have HX4n : Hid (Bl 25 x0 b4 (tmC m4)) := HX4.out.below hB HX4.out.lt
  clear HX4
  have HX4 := HX4n
  clear HX4n
  have HX5n : Hid (Bl 25 x0 b5 (tmC m5)) := HX5.out.below hB HX5.out.lt
  clear HX5
  have HX5 := HX5n
  clear HX5n
  have HX6n : Hid (Bl 25 x0 b6 (tmC m6)) := HX6.out.below hB HX6.out.lt
  clear HX6
  have HX6 := HX6n
  clear HX6n
  clear HQ hB
  have HQ := HQn
  clear HQn
  have HA : Hid (TR x0 (.slice none 0 0) [] none 0) := ⟨rfl, Nat.le_refl _, .inl rfl⟩
  go_upto_region 29 with fail
  go_cut [181] from 156 to 181 (fun s wx => s = .bool (!(o1 && o2 && o3 && o4 && o5 && o6 && true)) ∧ wx = x0)
  case first =>
    cases o1
    · go_wp2
      go_meet
      exact ⟨by simp, rfl⟩
    · skip
      cases o2
      · go_wp2
        go_meet
        exact ⟨by simp, rfl⟩
      · skip
        cases o3
        · go_wp2
          go_meet
          exact ⟨by simp, rfl⟩
        · skip
          cases o4
          · go_wp2
            go_meet
            exact ⟨by simp, rfl⟩
          · skip
            cases o5
            · go_wp2
              go_meet
              exact ⟨by simp, rfl⟩
            · skip
              cases o6
              · go_wp2
                go_meet
                exact ⟨by simp, rfl⟩
              · skip
                go_wp2
                go_meet
                exact ⟨rfl, rfl⟩
  case rest =>
  obtain ⟨rfl, rfl⟩ := hcut
  rcases HOK.out with ⟨ho, hc, rfl⟩ | ⟨ho, hc, rfl⟩
  · rw [show (!(o1 && o2 && o3 && o4 && o5 && o6 && true)) = false from by rw [ho]; rfl]
    simp only [Cm.mk.injEq] at hc
    obtain ⟨c0, c1, c2, c3, c4, c5, c6, c7, c8, c9, cA, cB⟩ := hc
    replace c0 := c0.symm
    subst c0
    replace c1 := c1.symm
    subst c1
    replace c2 := c2.symm
    subst c2
    replace c3 := c3.symm
    subst c3
    replace c4 := c4.symm
    subst c4
    replace c5 := c5.symm
    subst c5
    replace c6 := c6.symm
    subst c6
    replace c7 := c7.symm
    subst c7
    replace c8 := c8.symm
    subst c8
    replace c9 := c9.symm
    subst c9
    replace cA := cA.symm
    subst cA
    replace cB := cB.symm
    subst cB
    clear HOK ho Hb
    have HYx : Hid (Below w3.heap.size w3 wc) := HY5.out.trans (HQ.out.mono HY5.out.size)
    have kr := HRC.out wc HYx.out
    have k0 : wc.cell? ⟨bC, 0, none⟩ = some (.slice vA L.length vC) := by have := kr 0 _ rfl; rwa [Nat.zero_add] at this
    have k1 : wc.cell? ⟨bC, 1, none⟩ = some (.string ⟨i1.toArray⟩) := by have := kr 1 _ rfl; rwa [Nat.zero_add] at this
    have k2 : wc.cell? ⟨bC, 2, none⟩ = some (.bool h1) := by have := kr 2 _ rfl; rwa [Nat.zero_add] at this
    have k3 : wc.cell? ⟨bC, 3, none⟩ = some (.string ⟨i2.toArray⟩) := by have := kr 3 _ rfl; rwa [Nat.zero_add] at this
    have k4 : wc.cell? ⟨bC, 4, none⟩ = some (.bool h2) := by have := kr 4 _ rfl; rwa [Nat.zero_add] at this
    have k5 : wc.cell? ⟨bC, 5, none⟩ = some (.slice aA 0 aC) := by have := kr 5 _ rfl; rwa [Nat.zero_add] at this
    have k6 : wc.cell? ⟨bC, 6, none⟩ = some (.bool false) := by have := kr 6 _ rfl; rwa [Nat.zero_add] at this
    have k7 : wc.cell? ⟨bC, 7, none⟩ = some (.string ⟨i3.toArray⟩) := by have := kr 7 _ rfl; rwa [Nat.zero_add] at this
    have k8 : wc.cell? ⟨bC, 8, none⟩ = some (.bool h3) := by have := kr 8 _ rfl; rwa [Nat.zero_add] at this
    have k9 : wc.cell? ⟨bC, 9, none⟩ = some (.bool m4.has) := by have := kr 9 _ rfl; rwa [Nat.zero_add] at this
    have k10 : wc.cell? ⟨bC, 10, none⟩ = some (.int .i64 m4.at_) := by have := kr 10 _ rfl; rwa [Nat.zero_add] at this
    have k11 : wc.cell? ⟨bC, 11, none⟩ = some (.bool m5.has) := by have := kr 11 _ rfl; rwa [Nat.zero_add] at this
    have k12 : wc.cell? ⟨bC, 12, none⟩ = some (.int .i64 m5.at_) := by have := kr 12 _ rfl; rwa [Nat.zero_add] at this
    have k13 : wc.cell? ⟨bC, 13, none⟩ = some (.bool m6.has) := by have := kr 13 _ rfl; rwa [Nat.zero_add] at this
    have k14 : wc.cell? ⟨bC, 14, none⟩ = some (.int .i64 m6.at_) := by have := kr 14 _ rfl; rwa [Nat.zero_add] at this
    have t4a : wc.cell? ⟨b4, 0, none⟩ = some (.bool m4.has) := HX4.out.cell 0 (by simp [tmC])
    have t4b : wc.cell? ⟨b4, 1, none⟩ = some (.int .i64 m4.at_) := HX4.out.cell 1 (by simp [tmC])
    have t5a : wc.cell? ⟨b5, 0, none⟩ = some (.bool m5.has) := HX5.out.cell 0 (by simp [tmC])
    have t5b : wc.cell? ⟨b5, 1, none⟩ = some (.int .i64 m5.at_) := HX5.out.cell 1 (by simp [tmC])
    have t6a : wc.cell? ⟨b6, 0, none⟩ = some (.bool m6.has) := HX6.out.cell 0 (by simp [tmC])
    have t6b : wc.cell? ⟨b6, 1, none⟩ = some (.int .i64 m6.at_) := HX6.out.cell 1 (by simp [tmC])
    have CN := snodes_any _ _ L L vA (some ⟨g, off, none⟩) vC cap wc (HcN.out wc HYx.out) (HNq.out wc HQ.out) (by omega)
    rw [decide_eq_true rfl] at CN
    have HCT : Hid (∀ q, Calls Tryz.prog 22 #[.slice aA ([]).length aC, .slice none 0 0] (wc.drewN q) fun e w' => e = .returned (.bool true) ∧ ∃ q', w' = (wc.drewN q).drewN q') := fun q => by
      have := stexts_any ([]) ([]) aA _ aC _ (wc.drewN q) ((HcT.out wc HYx.out).drewN q) (HA.out.drewN q) (Nat.le_trans hcb.2 (by decide))
      rw [decide_eq_true rfl] at this
      exact this
    have qh1 : (h1 != h1) = false := by simp
    have qh2 : (h2 != h2) = false := by simp
    have qh3 : (h3 != h3) = false := by simp
    have qi1 : (i1 == i1) = true := by simp
    have qi2 : (i2 == i2) = true := by simp
    have qi3 : (i3 == i3) = true := by simp
    have hrt := run_tm
    have qm4 : ((m4.has == m4.has) && (m4.at_ == m4.at_)) = true := by simp
    have qm5 : ((m5.has == m5.has) && (m5.at_ == m5.at_)) = true := by simp
    have qm6 : ((m6.has == m6.has) && (m6.at_ == m6.at_)) = true := by simp
    have HBw : Hid (Below w.heap.size w wc) := HB5.out.trans (HQ.out.mono HB5.out.size)
    clear kr HA HX4 HX5 HX6
    go_wp2_with fail
    refine CN.mono ?_
    clear CN
    rintro e y9 ⟨rfl, q, rfl⟩
    replace k0 : (wc.drewN q).cell? ⟨bC, 0, none⟩ = some (.slice vA L.length vC) := k0
    replace k1 : (wc.drewN q).cell? ⟨bC, 1, none⟩ = some (.string ⟨i1.toArray⟩) := k1
    replace k2 : (wc.drewN q).cell? ⟨bC, 2, none⟩ = some (.bool h1) := k2
    replace k3 : (wc.drewN q).cell? ⟨bC, 3, none⟩ = some (.string ⟨i2.toArray⟩) := k3
    replace k4 : (wc.drewN q).cell? ⟨bC, 4, none⟩ = some (.bool h2) := k4
    replace k5 : (wc.drewN q).cell? ⟨bC, 5, none⟩ = some (.slice aA 0 aC) := k5
    replace k6 : (wc.drewN q).cell? ⟨bC, 6, none⟩ = some (.bool false) := k6
    replace k7 : (wc.drewN q).cell? ⟨bC, 7, none⟩ = some (.string ⟨i3.toArray⟩) := k7
    replace k8 : (wc.drewN q).cell? ⟨bC, 8, none⟩ = some (.bool h3) := k8
    replace k9 : (wc.drewN q).cell? ⟨bC, 9, none⟩ = some (.bool m4.has) := k9
    replace k10 : (wc.drewN q).cell? ⟨bC, 10, none⟩ = some (.int .i64 m4.at_) := k10
    replace k11 : (wc.drewN q).cell? ⟨bC, 11, none⟩ = some (.bool m5.has) := k11
    replace k12 : (wc.drewN q).cell? ⟨bC, 12, none⟩ = some (.int .i64 m5.at_) := k12
    replace k13 : (wc.drewN q).cell? ⟨bC, 13, none⟩ = some (.bool m6.has) := k13
    replace k14 : (wc.drewN q).cell? ⟨bC, 14, none⟩ = some (.int .i64 m6.at_) := k14
    replace t4a : (wc.drewN q).cell? ⟨b4, 0, none⟩ = some (.bool m4.has) := t4a
    replace t4b : (wc.drewN q).cell? ⟨b4, 1, none⟩ = some (.int .i64 m4.at_) := t4b
    replace t5a : (wc.drewN q).cell? ⟨b5, 0, none⟩ = some (.bool m5.has) := t5a
    replace t5b : (wc.drewN q).cell? ⟨b5, 1, none⟩ = some (.int .i64 m5.at_) := t5b
    replace t6a : (wc.drewN q).cell? ⟨b6, 0, none⟩ = some (.bool m6.has) := t6a
    replace t6b : (wc.drewN q).cell? ⟨b6, 1, none⟩ = some (.int .i64 m6.at_) := t6b
    have CT := HCT.out q
    clear HCT
    go_wp2_with fail
    refine CT.mono ?_
    clear CT
    rintro e y9 ⟨rfl, q', rfl⟩
    go_wp2
    go_ret
    exact ⟨rfl, below_drewN HBw.out _⟩
  · obtain rfl := Hb.out hc
    rw [show (!(o1 && o2 && o3 && o4 && o5 && o6 && true)) = true from by rw [ho]; rfl]
    clear HOK ho hc Hb
    go_wp2
    go_ret
    exact ⟨rfl, HB5.out.trans (HQ.out.mono HB5.out.size)⟩

end Go.Proofs.YthlfboaidhgnlaaGreatDoor

namespace Go.Proofs.YthlfboaidhgnlaaGreatDoor
open Go.RowKit Go.Shelf

set_option maxRecDepth 100000 in
set_option maxHeartbeats 16000000 in
theorem said_text (t : List UInt8) (w : World) (hG : GL w.heap.size w) (hf0 : (parseF t).2.1 = 0) (h70 : ((parseF t).1.getD 0 (nd0 0)).kind = 7) (k : Nat) (hka : memF (parseF t).1 0 kAud = (k : Int)) (hk5 : ((parseF t).1.getD k (nd0 0)).kind = 5) :
    Calls Tryz.prog 5 #[.string ⟨t.toArray⟩] w fun e w' => e = .returned (.bool true) ∧ Below w.heap.size w w' := by
  have HGq : Hid (∀ wq, Below w.heap.size w wq → GL wq.heap.size wq) := fun wq hq => (hG.below hq).up hq.size
  have CA := awake_any w hG
  have hbd := parse_bd t
  obtain ⟨cc, hcc⟩ : ∃ c, (cparseF t).1 = c := ⟨_, rfl⟩
  obtain ⟨ce, hce⟩ : ∃ c, (cparseF t).2 = c := ⟨_, rfl⟩
  have HCP : Hid (∀ wq, Below w.heap.size w wq → Calls Tryz.prog 13 #[.string ⟨t.toArray⟩] wq fun e w' => (∃ va aa, e = .returned (.tuple #[clV va aa cc, .int .i64 (ce : Nat)]) ∧ NO wq.heap.size w' va cc.val ∧ OT wq.heap.size w' aa cc.aud) ∧ Below wq.heap.size wq w') := fun wq hq => by
    have := cparse_any t wq (HGq.out wq hq)
    rw [hcc, hce] at this
    exact this
  have HJP : Hid (∀ wq, Below w.heap.size w wq → Calls Tryz.prog 16 #[.string ⟨t.toArray⟩] wq fun e w' => Below wq.heap.size wq w' ∧ ∃ v, e = .returned (.tuple #[v, .int .i64 ((parseF t).2.1 : Int), .int .i64 ((parseF t).2.2 : Int)]) ∧ NO wq.heap.size w' v (parseF t).1) := fun wq hq => parse_all t wq (HGq.out wq hq)
  have hcb : cc.val.length ≤ 1000000000 ∧ cc.aud.length ≤ 1000000000 := by
    rw [← hcc]
    unfold cparseF
    have h1 := hbd.1
    split
    · exact ⟨Nat.zero_le _, Nat.zero_le _⟩
    · split
      · exact ⟨Nat.zero_le _, Nat.zero_le _⟩
      · split
        · refine ⟨by show (parseF t).1.length ≤ _; omega, ?_⟩
          show (tsF (parseF t).1 kAud).1.length ≤ _
          unfold tsF
          split
          · simp
          · split
            · simp
            · rw [List.length_map]
              have := @kids_len (parseF t).1 (memF (parseF t).1 0 kAud)
              omega
        · exact ⟨Nat.zero_le _, Nat.zero_le _⟩
  obtain ⟨L, hL⟩ : ∃ l, (parseF t).1 = l := ⟨_, rfl⟩
  obtain ⟨f, hf⟩ : ∃ l, (parseF t).2.1 = l := ⟨_, rfl⟩
  obtain ⟨p, hp⟩ : ∃ l, (parseF t).2.2 = l := ⟨_, rfl⟩
  rw [hL, hf, hp] at HJP
  rw [hL] at hbd
  have HF0 : Hid (f = 0) := by rw [← hf]; exact hf0
  have hbd0 := hbd.1
  have HSQ : Sq 0 [[]] L := by rw [← hL]; exact parse_val hf0
  have hpos : 0 < L.length := (all_of HSQ hbd0).1
  have h7 : (L.getD 0 (nd0 0)).kind = 7 := by rw [← hL]; exact h70
  have HOK : Hid ((okF L = true ∧ cc = saidF L ∧ ce = 0) ∨ (okF L = false ∧ cc = cm0 ∧ ce = 131)) := by
    show _ ∨ _
    rw [ok_all HSQ hbd0 h7, ← hcc, ← hce, ← hL]
    unfold cparseF
    rw [if_neg (fun h => h hf0), if_neg (fun h => h h70)]
    cases hz : (kidsF (parseF t).1 0).all (fitF (parseF t).1)
    · exact .inr ⟨rfl, rfl, rfl⟩
    · exact .inl ⟨rfl, rfl, rfl⟩
  have HSF : Hid (saidF L = ⟨L, (txF L kIss).1, (txF L kIss).2, (txF L kSub).1, (txF L kSub).2, (tsF L kAud).1, (tsF L kAud).2, (txF L kJti).1, (txF L kJti).2, moF L kExp, moF L kNbf, moF L kIat⟩) := rfl
  have HOF : Hid (okF L = (okT L kIss && okT L kSub && okT L kJti && okM L kExp && okM L kNbf && okM L kIat && okA L kAud)) := rfl
  have hk : memF L 0 kAud = (k : Int) := by rw [← hL]; exact hka
  have hkl : k < L.length := by
    rcases mem_in L kAud with e | ⟨k', hk', e, _⟩
    · rw [hk] at e; omega
    · rw [hk] at e
      have := kidsF_lt k' hk'
      omega
  have hkK : (L.getD k (nd0 0)).kind = 5 := by rw [← hL]; exact hk5
  have HTS : Hid (tsF L kAud = ([(L.getD k (nd0 0)).text], true) ∧ okA L kAud = true) := by
    refine ⟨?_, ?_⟩
    · unfold tsF; rw [hk, if_neg (by omega), Int.toNat_natCast, if_pos hkK]
    · unfold okA; rw [hk, Int.toNat_natCast, decide_eq_true hkK]; simp
  clear HSQ hf0 h70
  clear hG hcc hce hL hf hp HGq
  obtain ⟨cv, ci, chi, cs, chs, ca, cha, cj, chj, ce1, ce2, ce3⟩ := cc
  dsimp only at hcb HCP
  go_enter Tryz.func5, Tryz.ntmps5
  go_wp2_with fail
  refine CA.mono ?_
  clear CA
  rintro e w1 ⟨rfl, hB⟩
  have HB1 : Hid (Below w.heap.size w w1) := hB
  have CP := HCP.out w1 hB
  clear hB HCP
  go_wp2_with fail
  refine CP.mono ?_
  clear CP
  rintro e w2 ⟨⟨va, aa, rfl, hno, hot⟩, hB⟩
  obtain ⟨vA, vC, hcN⟩ := hno.nr
  obtain ⟨e1, _, _⟩ := id hcN
  subst e1
  obtain ⟨aA, aC, e2, hcT⟩ := hot.tr
  subst e2
  have HB2 : Hid (Below w.heap.size w w2) := HB1.out.trans (hB.mono HB1.out.size)
  clear hno hot hB HB1
  unfold clV
  dsimp only at *
  obtain ⟨w3, hw3⟩ : ∃ x, w2.alloc (.cells #[.slice vA cv.length vC, .string ⟨ci.toArray⟩, .bool chi, .string ⟨cs.toArray⟩, .bool chs, .slice aA ca.length aC, .bool cha, .string ⟨cj.toArray⟩, .bool chj, .bool ce1.has, .int .i64 ce1.at_, .bool ce2.has, .int .i64 ce2.at_, .bool ce3.has, .int .i64 ce3.at_] 27) = x := ⟨_, rfl⟩
  have hA3 : Below w2.heap.size w2 w3 := by rw [← hw3]; exact alloc_below _ _
  have hbC : Bl 27 w3 w2.heap.size [.slice vA cv.length vC, .string ⟨ci.toArray⟩, .bool chi, .string ⟨cs.toArray⟩, .bool chs, .slice aA ca.length aC, .bool cha, .string ⟨cj.toArray⟩, .bool chj, .bool ce1.has, .int .i64 ce1.at_, .bool ce2.has, .int .i64 ce2.at_, .bool ce3.has, .int .i64 ce3.at_] := by rw [← hw3]; exact alloc_bl _ _ _
  obtain ⟨bC, hbCe⟩ : ∃ b, w2.heap.size = b := ⟨_, rfl⟩
  rw [hbCe] at hbC
  have HBC : Hid (w2.heap.size = bC) := hbCe
  have HW3 : Hid (w2.alloc (.cells #[.slice vA cv.length vC, .string ⟨ci.toArray⟩, .bool chi, .string ⟨cs.toArray⟩, .bool chs, .slice aA ca.length aC, .bool cha, .string ⟨cj.toArray⟩, .bool chj, .bool ce1.has, .int .i64 ce1.at_, .bool ce2.has, .int .i64 ce2.at_, .bool ce3.has, .int .i64 ce3.at_] 27) = w3) := hw3
  have HB3 : Hid (Below w.heap.size w w3) := HB2.out.trans (hA3.mono HB2.out.size)
  have HcN : Hid (∀ wq, Below w3.heap.size w3 wq → NR wq (.slice vA cv.length vC) cv vA vC) := fun wq hq => (hcN.below hA3 (Nat.le_refl _)).below hq (Nat.le_refl _)
  have HcT : Hid (∀ wq, Below w3.heap.size w3 wq → TR wq (.slice aA ca.length aC) ca aA aC) := fun wq hq => (hcT.below hA3 (Nat.le_refl _)).below hq (Nat.le_refl _)
  have HRC : Hid (∀ wq, Below w3.heap.size w3 wq → wq.rangeAt bC 0 [.slice vA cv.length vC, .string ⟨ci.toArray⟩, .bool chi, .string ⟨cs.toArray⟩, .bool chs, .slice aA ca.length aC, .bool cha, .string ⟨cj.toArray⟩, .bool chj, .bool ce1.has, .int .i64 ce1.at_, .bool ce2.has, .int .i64 ce2.at_, .bool ce3.has, .int .i64 ce3.at_]) := fun wq hq j v hv => by
    obtain ⟨hj, e⟩ := List.getElem?_eq_some_iff.1 hv
    rw [Nat.zero_add, ← e]
    exact (hbC.below hq hbC.lt).cell j hj
  have hcl : (Tryz.prog.info? 27).map (·.size) = some ([.slice vA cv.length vC, .string ⟨ci.toArray⟩, .bool chi, .string ⟨cs.toArray⟩, .bool chs, .slice aA ca.length aC, .bool cha, .string ⟨cj.toArray⟩, .bool chj, .bool ce1.has, .int .i64 ce1.at_, .bool ce2.has, .int .i64 ce2.at_, .bool ce3.has, .int .i64 ce3.at_] : List Value).length := by kernel_rfl
  have CJ := HJP.out w3 HB3.out
  clear hw3 hA3 hbC hbCe hcN hcT HJP
  go_wp2_with fail
  rw [HBC.out, HW3.out]
  clear HBC HW3
  refine CJ.mono ?_
  clear CJ
  rintro e w4 ⟨hB, v, rfl, hno⟩
  obtain ⟨ao, cap, hN⟩ := hno.nr
  obtain ⟨e1, hcap, _⟩ := id hN
  subst e1
  have HY4 : Hid (Below w3.heap.size w3 w4) := hB
  have HN4 : Hid (NR w4 (.slice ao L.length cap) L ao cap) := hN
  have CE : Calls Tryz.prog 14 #[.agg #[.slice vA cv.length vC, .string ⟨ci.toArray⟩, .bool chi, .string ⟨cs.toArray⟩, .bool chs, .slice aA ca.length aC, .bool cha, .string ⟨cj.toArray⟩, .bool chj, .bool ce1.has, .int .i64 ce1.at_, .bool ce2.has, .int .i64 ce2.at_, .bool ce3.has, .int .i64 ce3.at_], .agg #[.slice none 0 0, .string ⟨#[]⟩, .bool false, .string ⟨#[]⟩, .bool false, .slice none 0 0, .bool false, .string ⟨#[]⟩, .bool false, .bool false, .int .i64 0, .bool false, .int .i64 0, .bool false, .int .i64 0]] w4 fun e w' => (∃ b, e = .returned (.bool b) ∧ ((⟨cv, ci, chi, cs, chs, ca, cha, cj, chj, ce1, ce2, ce3⟩ : Cm) = cm0 → b = true)) ∧ Below w4.heap.size w4 w' := by
    by_cases h0 : (⟨cv, ci, chi, cs, chs, ca, cha, cj, chj, ce1, ce2, ce3⟩ : Cm) = cm0
    · have h1 := csame_eq vA vC aA aC none 0 none 0 ⟨cv, ci, chi, cs, chs, ca, cha, cj, chj, ce1, ce2, ce3⟩ w4 (HcN.out w4 hB) (HcT.out w4 hB) (by rw [show cv = ([] : List Nd) from congrArg Cm.val h0]; exact ⟨rfl, Nat.le_refl _, .inl rfl⟩) (by rw [show ca = ([] : List (List UInt8)) from congrArg Cm.aud h0]; exact ⟨rfl, Nat.le_refl _, .inl rfl⟩) hcb.1 (Nat.le_trans hcb.2 (by decide))
      have h2 : clV (.slice none cv.length 0) (.slice none ca.length 0) ⟨cv, ci, chi, cs, chs, ca, cha, cj, chj, ce1, ce2, ce3⟩ = .agg #[.slice none 0 0, .string ⟨#[]⟩, .bool false, .string ⟨#[]⟩, .bool false, .slice none 0 0, .bool false, .string ⟨#[]⟩, .bool false, .bool false, .int .i64 0, .bool false, .int .i64 0, .bool false, .int .i64 0] := by
        rw [show cv.length = 0 from by rw [show cv = ([] : List Nd) from congrArg Cm.val h0]; rfl, show ca.length = 0 from by rw [show ca = ([] : List (List UInt8)) from congrArg Cm.aud h0]; rfl, h0]
        rfl
      rw [show clV (.slice none (⟨cv, ci, chi, cs, chs, ca, cha, cj, chj, ce1, ce2, ce3⟩ : Cm).val.length 0) (.slice none (⟨cv, ci, chi, cs, chs, ca, cha, cj, chj, ce1, ce2, ce3⟩ : Cm).aud.length 0) ⟨cv, ci, chi, cs, chs, ca, cha, cj, chj, ce1, ce2, ce3⟩ = .agg #[.slice none 0 0, .string ⟨#[]⟩, .bool false, .string ⟨#[]⟩, .bool false, .slice none 0 0, .bool false, .string ⟨#[]⟩, .bool false, .bool false, .int .i64 0, .bool false, .int .i64 0, .bool false, .int .i64 0] from h2] at h1
      exact h1.mono (fun _ _ h => ⟨⟨true, h.1, fun _ => rfl⟩, h.2⟩)
    · have h1 := csame_some vA vC aA aC none 0 none 0 ⟨cv, ci, chi, cs, chs, ca, cha, cj, chj, ce1, ce2, ce3⟩ cm0 w4 (HcN.out w4 hB) (HcT.out w4 hB) ⟨rfl, Nat.le_refl _, .inl rfl⟩ ⟨rfl, Nat.le_refl _, .inl rfl⟩ hcb.1 (Nat.le_trans hcb.2 (by decide))
      exact h1.mono (fun _ _ ⟨⟨b, hb⟩, h⟩ => ⟨⟨b, hb, fun h => absurd h h0⟩, h⟩)
  have HR4 := HRC.out w4 hB
  clear hB hno hN
  go_wp2_with (refine wpList_load_mid rfl 27 (.tmp 3) rfl bC 0 rfl [.slice vA cv.length vC, .string ⟨ci.toArray⟩, .bool chi, .string ⟨cs.toArray⟩, .bool chs, .slice aA ca.length aC, .bool cha, .string ⟨cj.toArray⟩, .bool chj, .bool ce1.has, .int .i64 ce1.at_, .bool ce2.has, .int .i64 ce2.at_, .bool ce3.has, .int .i64 ce3.at_] _ HR4 Tryz.underlying27 rfl hcl ?_)
  refine CE.mono ?_
  clear CE HR4
  rintro e w5 ⟨⟨b, rfl, hb⟩, hB⟩
  have HY5 : Hid (Below w3.heap.size w3 w5) := HY4.out.trans (hB.mono HY4.out.size)
  have HN5 : Hid (NR w5 (.slice ao L.length cap) L ao cap) := HN4.out.below hB (Nat.le_refl _)
  have HB5 : Hid (Below w.heap.size w w5) := HB3.out.trans (HY5.out.mono HB3.out.size)
  have Hb : Hid ((⟨cv, ci, chi, cs, chs, ca, cha, cj, chj, ce1, ce2, ce3⟩ : Cm) = cm0 → b = true) := hb
  clear hB HY4 HN4 hb
  obtain rfl := HF0.out
  clear HF0 hka hk5
  have HQ : Hid (Below w5.heap.size w5 w5) := Below.refl _ _
  obtain ⟨g, off, rfl, hcell⟩ := HN5.out.at hpos
  have ck := hcell 0 (.int .i64 7) (by omega) (by rw [← h7]; rfl)
  simp only [Nat.zero_mul, Nat.add_zero] at ck
  have hbv : 0 < (L.length : Int) := by omega
  have HNq : Hid (∀ wq, Below w5.heap.size w5 wq → NR wq (.slice (some ⟨g, off, none⟩) L.length cap) L (some ⟨g, off, none⟩) cap) := fun wq hq => HN5.out.below hq (Nat.le_refl _)
  have HS1 : Hid (∀ k wq, Below w5.heap.size w5 wq → Calls Tryz.prog 17 #[.slice (some ⟨g, off, none⟩) L.length cap, .string ⟨k.toArray⟩] wq fun e w' => e = .returned (.tuple #[.string ⟨(txF L k).1.toArray⟩, .bool (txF L k).2, .bool (okT L k)]) ∧ Below wq.heap.size wq w') := fun k wq hq => string1_any L _ cap k wq (HNq.out wq hq) (by omega)
  have HS2 : Hid (∀ k wq, Below w5.heap.size w5 wq → Calls Tryz.prog 18 #[.slice (some ⟨g, off, none⟩) L.length cap, .string ⟨k.toArray⟩] wq fun e w' => e = .returned (.tuple #[tmV (moF L k), .bool (okM L k)]) ∧ Below wq.heap.size wq w') := fun k wq hq => whole_any9 L _ cap k wq (HNq.out wq hq) (by omega)
  have HMe : Hid (∀ wq, Below w5.heap.size w5 wq → Calls Tryz.prog 19 #[.slice (some ⟨g, off, none⟩) L.length cap, .int .i64 0, .string ⟨kAud.toArray⟩] wq fun e w' => e = .returned (.int .i64 (memF L 0 kAud)) ∧ Below wq.heap.size wq w') := fun wq hq => member_any _ L _ cap 0 kAud wq (HNq.out wq hq) (by omega)
  have HC1 := HS1.out kIss
  have HC2 := HS1.out kSub
  have HC3 := HS1.out kJti
  have HC4 := HS2.out kExp
  have HC5 := HS2.out kNbf
  have HC6 := HS2.out kIat
  rw [HSF.out] at HOK
  rw [HOF.out] at HOK
  obtain ⟨i1, hi1⟩ : ∃ x, (txF L kIss).1 = x := ⟨_, rfl⟩
  obtain ⟨h1, hh1⟩ : ∃ x, (txF L kIss).2 = x := ⟨_, rfl⟩
  obtain ⟨o1, ho1⟩ : ∃ x, okT L kIss = x := ⟨_, rfl⟩
  rw [hi1, hh1, ho1] at HC1
  rw [hi1, hh1, ho1] at HOK
  obtain ⟨i2, hi2⟩ : ∃ x, (txF L kSub).1 = x := ⟨_, rfl⟩
  obtain ⟨h2, hh2⟩ : ∃ x, (txF L kSub).2 = x := ⟨_, rfl⟩
  obtain ⟨o2, ho2⟩ : ∃ x, okT L kSub = x := ⟨_, rfl⟩
  rw [hi2, hh2, ho2] at HC2
  rw [hi2, hh2, ho2] at HOK
  obtain ⟨i3, hi3⟩ : ∃ x, (txF L kJti).1 = x := ⟨_, rfl⟩
  obtain ⟨h3, hh3⟩ : ∃ x, (txF L kJti).2 = x := ⟨_, rfl⟩
  obtain ⟨o3, ho3⟩ : ∃ x, okT L kJti = x := ⟨_, rfl⟩
  rw [hi3, hh3, ho3] at HC3
  rw [hi3, hh3, ho3] at HOK
  obtain ⟨m4, hm4⟩ : ∃ x, moF L kExp = x := ⟨_, rfl⟩
  obtain ⟨o4, ho4⟩ : ∃ x, okM L kExp = x := ⟨_, rfl⟩
  rw [hm4, ho4] at HC4
  rw [hm4, ho4] at HOK
  obtain ⟨m5, hm5⟩ : ∃ x, moF L kNbf = x := ⟨_, rfl⟩
  obtain ⟨o5, ho5⟩ : ∃ x, okM L kNbf = x := ⟨_, rfl⟩
  rw [hm5, ho5] at HC5
  rw [hm5, ho5] at HOK
  obtain ⟨m6, hm6⟩ : ∃ x, moF L kIat = x := ⟨_, rfl⟩
  obtain ⟨o6, ho6⟩ : ∃ x, okM L kIat = x := ⟨_, rfl⟩
  rw [hm6, ho6] at HC6
  rw [hm6, ho6] at HOK
  have HD1 : Hid _ := HC1
  have HD2 : Hid _ := HC2
  have HD3 : Hid _ := HC3
  have HD4 : Hid _ := HC4
  have HD5 : Hid _ := HC5
  have HD6 : Hid _ := HC6
  clear HS1 HS2 HSF HOF hcell HC1 ho1 HC2 ho2 HC3 ho3 HC4 ho4 HC5 ho5 HC6 ho6 hi1 hh1 hi2 hh2 hi3 hh3 hm4 hm5 hm6
  rw [HTS.out.1, HTS.out.2] at HOK
  rw [hk] at HMe
  clear HTS hk
  have C0 := HD1.out w5 HQ.out
  clear HD1
  go_wp2_with fail
  refine C0.mono ?_
  clear C0 ck
  rintro e y1 ⟨rfl, hB⟩
  have HQn : Hid (Below w5.heap.size w5 y1) := HQ.out.trans (hB.mono HQ.out.size)
  clear HQ hB
  have HQ := HQn
  clear HQn
  have C0 := HD2.out y1 HQ.out
  clear HD2
  go_wp2_with fail
  refine C0.mono ?_
  clear C0
  rintro e y2 ⟨rfl, hB⟩
  have HQn : Hid (Below w5.heap.size w5 y2) := HQ.out.trans (hB.mono HQ.out.size)
  clear HQ hB
  have HQ := HQn
  clear HQn
  have C0 := HD3.out y2 HQ.out
  clear HD3
  go_wp2_with fail
  refine C0.mono ?_
  clear C0
  rintro e y3 ⟨rfl, hB⟩
  have HQn : Hid (Below w5.heap.size w5 y3) := HQ.out.trans (hB.mono HQ.out.size)
  clear HQ hB
  have HQ := HQn
  clear HQn
  have C0 := HD4.out y3 HQ.out
  clear HD4
  go_wp2_with fail
  refine C0.mono ?_
  clear C0
  rintro e y4 ⟨rfl, hB⟩
  have HQn : Hid (Below w5.heap.size w5 y4) := HQ.out.trans (hB.mono HQ.out.size)
  clear HQ hB
  have HQ := HQn
  clear HQn
  unfold tmV
  obtain ⟨z4, hz⟩ : ∃ x, y4.alloc (.cells #[.bool m4.has, .int .i64 m4.at_] 25) = x := ⟨_, rfl⟩
  have hA : Below y4.heap.size y4 z4 := by rw [← hz]; exact alloc_below _ _
  obtain ⟨b4, hbe⟩ : ∃ b, y4.heap.size = b := ⟨_, rfl⟩
  have hX : Bl 25 z4 y4.heap.size (tmC m4) := by rw [← hz]; exact alloc_bl _ _ _
  rw [hbe] at hX
  have HX4 : Hid (Bl 25 z4 b4 (tmC m4)) := hX
  have HQn : Hid (Below w5.heap.size w5 z4) := HQ.out.trans (hA.mono HQ.out.size)
  have HWt : Hid (y4.alloc (.cells #[.bool m4.has, .int .i64 m4.at_] 25) = z4) := hz
  have HBe4 : Hid (y4.heap.size = b4) := hbe
  clear HQ hA hX hz hbe
  have HQ := HQn
  clear HQn
  have C0 := HD5.out z4 HQ.out
  clear HD5
  go_wp2_with fail
  rw [HWt.out]
  clear HWt
  refine C0.mono ?_
  clear C0
  rintro e y5 ⟨rfl, hB⟩
  have HQn : Hid (Below w5.heap.size w5 y5) := HQ.out.trans (hB.mono HQ.out.size)
  have HX4n : Hid (Bl 25 y5 b4 (tmC m4)) := HX4.out.below hB HX4.out.lt
  clear HX4
  have HX4 := HX4n
  clear HX4n
  clear HQ hB
  have HQ := HQn
  clear HQn
  unfold tmV
  obtain ⟨z5, hz⟩ : ∃ x, y5.alloc (.cells #[.bool m5.has, .int .i64 m5.at_] 25) = x := ⟨_, rfl⟩
  have hA : Below y5.heap.size y5 z5 := by rw [← hz]; exact alloc_below _ _
  obtain ⟨b5, hbe⟩ : ∃ b, y5.heap.size = b := ⟨_, rfl⟩
  have hX : Bl 25 z5 y5.heap.size (tmC m5) := by rw [← hz]; exact alloc_bl _ _ _
  rw [hbe] at hX
  have HX5 : Hid (Bl 25 z5 b5 (tmC m5)) := hX
  have HX4n : Hid (Bl 25 z5 b4 (tmC m4)) := HX4.out.below hA HX4.out.lt
  clear HX4
  have HX4 := HX4n
  clear HX4n
  have HQn : Hid (Below w5.heap.size w5 z5) := HQ.out.trans (hA.mono HQ.out.size)
  have HWt : Hid (y5.alloc (.cells #[.bool m5.has, .int .i64 m5.at_] 25) = z5) := hz
  have HBe5 : Hid (y5.heap.size = b5) := hbe
  clear HQ hA hX hz hbe
  have HQ := HQn
  clear HQn
  have C0 := HD6.out z5 HQ.out
  clear HD6
  go_wp2_with fail
  rw [HWt.out]
  clear HWt
  refine C0.mono ?_
  clear C0
  rintro e y6 ⟨rfl, hB⟩
  have HQn : Hid (Below w5.heap.size w5 y6) := HQ.out.trans (hB.mono HQ.out.size)
  have HX4n : Hid (Bl 25 y6 b4 (tmC m4)) := HX4.out.below hB HX4.out.lt
  clear HX4
  have HX4 := HX4n
  clear HX4n
  have HX5n : Hid (Bl 25 y6 b5 (tmC m5)) := HX5.out.below hB HX5.out.lt
  clear HX5
  have HX5 := HX5n
  clear HX5n
  clear HQ hB
  have HQ := HQn
  clear HQn
  unfold tmV
  obtain ⟨z6, hz⟩ : ∃ x, y6.alloc (.cells #[.bool m6.has, .int .i64 m6.at_] 25) = x := ⟨_, rfl⟩
  have hA : Below y6.heap.size y6 z6 := by rw [← hz]; exact alloc_below _ _
  obtain ⟨b6, hbe⟩ : ∃ b, y6.heap.size = b := ⟨_, rfl⟩
  have hX : Bl 25 z6 y6.heap.size (tmC m6) := by rw [← hz]; exact alloc_bl _ _ _
  rw [hbe] at hX
  have HX6 : Hid (Bl 25 z6 b6 (tmC m6)) := hX
  have HX4n : Hid (Bl 25 z6 b4 (tmC m4)) := HX4.out.below hA HX4.out.lt
  clear HX4
  have HX4 := HX4n
  clear HX4n
  have HX5n : Hid (Bl 25 z6 b5 (tmC m5)) := HX5.out.below hA HX5.out.lt
  clear HX5
  have HX5 := HX5n
  clear HX5n
  have HQn : Hid (Below w5.heap.size w5 z6) := HQ.out.trans (hA.mono HQ.out.size)
  have HWt : Hid (y6.alloc (.cells #[.bool m6.has, .int .i64 m6.at_] 25) = z6) := hz
  have HBe6 : Hid (y6.heap.size = b6) := hbe
  clear HQ hA hX hz hbe
  have HQ := HQn
  clear HQn
  have C0 := HMe.out z6 HQ.out
  clear HMe
  go_wp2_with fail
  rw [HBe4.out, HBe5.out, HBe6.out, HWt.out]
  clear HWt HBe4 HBe5 HBe6
  refine C0.mono ?_
  clear C0
  rintro e x0 ⟨rfl, hB⟩
  have HQn : Hid (Below w5.heap.size w5 x0) := HQ.out.trans (hB.mono HQ.out.size)
  have HX4n : Hid (Bl 25 x0 b4 (tmC m4)) := HX4.out.below hB HX4.out.lt
  clear HX4
  have HX4 := HX4n
  clear HX4n
  have HX5n : Hid (Bl 25 x0 b5 (tmC m5)) := HX5.out.below hB HX5.out.lt
  clear HX5
  have HX5 := HX5n
  clear HX5n
  have HX6n : Hid (Bl 25 x0 b6 (tmC m6)) := HX6.out.below hB HX6.out.lt
  clear HX6
  have HX6 := HX6n
  clear HX6n
  clear HQ hB
  have HQ := HQn
  clear HQn
  obtain ⟨g9, off9, e9, hc9⟩ := (HNq.out x0 HQ.out).at hkl
  cases e9
  have kk0 := hc9 0 (.int .i64 (L.getD k (nd0 0)).kind) (by omega) rfl
  have kk2 := hc9 2 (.string ⟨(L.getD k (nd0 0)).text.toArray⟩) (by omega) rfl
  rw [Nat.add_zero, hkK] at kk0
  generalize (L.getD k (nd0 0)).text = tx at *
  have qk : decide ((k : Int) ≥ 0) = true := decide_eq_true (by omega)
  have hsz : w5.heap.size ≤ (x0.alloc (.cells #[.string ⟨tx.toArray⟩] 9)).heap.size := by rw [alloc_size]; have := HQ.out.size; omega
  clear hc9 hkK
  go_upto_region 29 with (at_builtin; refine append_txt (wr := x0.alloc (.cells #[.string ⟨tx.toArray⟩] 9)) rfl (.tmp 108) (.tmp 114) rfl w5.heap.size (.slice none 0 0) [] rfl (World.ownsRow_nil _ _ _ _) (some ⟨x0.heap.size, 0, none⟩) 1 [tx] rfl (one_txt x0 tx) (fun h => by cases h) (show 0 + 1 ≤ 1000000000 by decide) hsz ?_; intro v1 x9 ho9 hg9; obtain ⟨xa, xc, hTe, hTr⟩ := OT.tr ho9; have hTe : v1 = .slice xa 1 xc := hTe; subst hTe; have HA : Hid (TR x9 (.slice xa 1 xc) [tx] xa xc) := hTr; have hal := alloc_below x0 (.cells #[.string ⟨tx.toArray⟩] 9); have HX4n : Hid (Bl 25 x9 b4 (tmC m4)) := bl_grown (HX4.out.below hal HX4.out.lt) hg9 (fun h => by cases h); have HX5n : Hid (Bl 25 x9 b5 (tmC m5)) := bl_grown (HX5.out.below hal HX5.out.lt) hg9 (fun h => by cases h); have HX6n : Hid (Bl 25 x9 b6 (tmC m6)) := bl_grown (HX6.out.below hal HX6.out.lt) hg9 (fun h => by cases h); have HQn : Hid (Below w5.heap.size w5 x9) := (HQ.out.trans (hal.mono HQ.out.size)).grown hg9 hsz (fun k hk => by cases hk); clear HQ HX4 HX5 HX6 ho9 hg9 hal hsz hTr kk0 kk2)
  have HQ := HQn
  have HX4 := HX4n
  have HX5 := HX5n
  have HX6 := HX6n
  clear HQn HX4n HX5n HX6n
  go_cut [181] from 156 to 181 (fun s wx => s = .bool (!(o1 && o2 && o3 && o4 && o5 && o6 && true)) ∧ wx = x9)
  case first =>
    cases o1
    · go_wp2
      go_meet
      exact ⟨by simp, rfl⟩
    · skip
      cases o2
      · go_wp2
        go_meet
        exact ⟨by simp, rfl⟩
      · skip
        cases o3
        · go_wp2
          go_meet
          exact ⟨by simp, rfl⟩
        · skip
          cases o4
          · go_wp2
            go_meet
            exact ⟨by simp, rfl⟩
          · skip
            cases o5
            · go_wp2
              go_meet
              exact ⟨by simp, rfl⟩
            · skip
              cases o6
              · go_wp2
                go_meet
                exact ⟨by simp, rfl⟩
              · skip
                go_wp2
                go_meet
                exact ⟨rfl, rfl⟩
  case rest =>
  obtain ⟨rfl, rfl⟩ := hcut
  rcases HOK.out with ⟨ho, hc, rfl⟩ | ⟨ho, hc, rfl⟩
  · rw [show (!(o1 && o2 && o3 && o4 && o5 && o6 && true)) = false from by rw [ho]; rfl]
    simp only [Cm.mk.injEq] at hc
    obtain ⟨c0, c1, c2, c3, c4, c5, c6, c7, c8, c9, cA, cB⟩ := hc
    replace c0 := c0.symm
    subst c0
    replace c1 := c1.symm
    subst c1
    replace c2 := c2.symm
    subst c2
    replace c3 := c3.symm
    subst c3
    replace c4 := c4.symm
    subst c4
    replace c5 := c5.symm
    subst c5
    replace c6 := c6.symm
    subst c6
    replace c7 := c7.symm
    subst c7
    replace c8 := c8.symm
    subst c8
    replace c9 := c9.symm
    subst c9
    replace cA := cA.symm
    subst cA
    replace cB := cB.symm
    subst cB
    clear HOK ho Hb
    have HYx : Hid (Below w3.heap.size w3 wc) := HY5.out.trans (HQ.out.mono HY5.out.size)
    have kr := HRC.out wc HYx.out
    have k0 : wc.cell? ⟨bC, 0, none⟩ = some (.slice vA L.length vC) := by have := kr 0 _ rfl; rwa [Nat.zero_add] at this
    have k1 : wc.cell? ⟨bC, 1, none⟩ = some (.string ⟨i1.toArray⟩) := by have := kr 1 _ rfl; rwa [Nat.zero_add] at this
    have k2 : wc.cell? ⟨bC, 2, none⟩ = some (.bool h1) := by have := kr 2 _ rfl; rwa [Nat.zero_add] at this
    have k3 : wc.cell? ⟨bC, 3, none⟩ = some (.string ⟨i2.toArray⟩) := by have := kr 3 _ rfl; rwa [Nat.zero_add] at this
    have k4 : wc.cell? ⟨bC, 4, none⟩ = some (.bool h2) := by have := kr 4 _ rfl; rwa [Nat.zero_add] at this
    have k5 : wc.cell? ⟨bC, 5, none⟩ = some (.slice aA ([tx]).length aC) := by have := kr 5 _ rfl; rwa [Nat.zero_add] at this
    have k6 : wc.cell? ⟨bC, 6, none⟩ = some (.bool true) := by have := kr 6 _ rfl; rwa [Nat.zero_add] at this
    have k7 : wc.cell? ⟨bC, 7, none⟩ = some (.string ⟨i3.toArray⟩) := by have := kr 7 _ rfl; rwa [Nat.zero_add] at this
    have k8 : wc.cell? ⟨bC, 8, none⟩ = some (.bool h3) := by have := kr 8 _ rfl; rwa [Nat.zero_add] at this
    have k9 : wc.cell? ⟨bC, 9, none⟩ = some (.bool m4.has) := by have := kr 9 _ rfl; rwa [Nat.zero_add] at this
    have k10 : wc.cell? ⟨bC, 10, none⟩ = some (.int .i64 m4.at_) := by have := kr 10 _ rfl; rwa [Nat.zero_add] at this
    have k11 : wc.cell? ⟨bC, 11, none⟩ = some (.bool m5.has) := by have := kr 11 _ rfl; rwa [Nat.zero_add] at this
    have k12 : wc.cell? ⟨bC, 12, none⟩ = some (.int .i64 m5.at_) := by have := kr 12 _ rfl; rwa [Nat.zero_add] at this
    have k13 : wc.cell? ⟨bC, 13, none⟩ = some (.bool m6.has) := by have := kr 13 _ rfl; rwa [Nat.zero_add] at this
    have k14 : wc.cell? ⟨bC, 14, none⟩ = some (.int .i64 m6.at_) := by have := kr 14 _ rfl; rwa [Nat.zero_add] at this
    have t4a : wc.cell? ⟨b4, 0, none⟩ = some (.bool m4.has) := HX4.out.cell 0 (by simp [tmC])
    have t4b : wc.cell? ⟨b4, 1, none⟩ = some (.int .i64 m4.at_) := HX4.out.cell 1 (by simp [tmC])
    have t5a : wc.cell? ⟨b5, 0, none⟩ = some (.bool m5.has) := HX5.out.cell 0 (by simp [tmC])
    have t5b : wc.cell? ⟨b5, 1, none⟩ = some (.int .i64 m5.at_) := HX5.out.cell 1 (by simp [tmC])
    have t6a : wc.cell? ⟨b6, 0, none⟩ = some (.bool m6.has) := HX6.out.cell 0 (by simp [tmC])
    have t6b : wc.cell? ⟨b6, 1, none⟩ = some (.int .i64 m6.at_) := HX6.out.cell 1 (by simp [tmC])
    have CN := snodes_any _ _ L L vA (some ⟨g, off, none⟩) vC cap wc (HcN.out wc HYx.out) (HNq.out wc HQ.out) (by omega)
    rw [decide_eq_true rfl] at CN
    have HCT : Hid (∀ q, Calls Tryz.prog 22 #[.slice aA ([tx]).length aC, .slice xa 1 xc] (wc.drewN q) fun e w' => e = .returned (.bool true) ∧ ∃ q', w' = (wc.drewN q).drewN q') := fun q => by
      have := stexts_any ([tx]) ([tx]) aA _ aC _ (wc.drewN q) ((HcT.out wc HYx.out).drewN q) (HA.out.drewN q) (Nat.le_trans hcb.2 (by decide))
      rw [decide_eq_true rfl] at this
      exact this
    have qh1 : (h1 != h1) = false := by simp
    have qh2 : (h2 != h2) = false := by simp
    have qh3 : (h3 != h3) = false := by simp
    have qi1 : (i1 == i1) = true := by simp
    have qi2 : (i2 == i2) = true := by simp
    have qi3 : (i3 == i3) = true := by simp
    have hrt := run_tm
    have qm4 : ((m4.has == m4.has) && (m4.at_ == m4.at_)) = true := by simp
    have qm5 : ((m5.has == m5.has) && (m5.at_ == m5.at_)) = true := by simp
    have qm6 : ((m6.has == m6.has) && (m6.at_ == m6.at_)) = true := by simp
    have HBw : Hid (Below w.heap.size w wc) := HB5.out.trans (HQ.out.mono HB5.out.size)
    clear kr HA HX4 HX5 HX6
    go_wp2_with fail
    refine CN.mono ?_
    clear CN
    rintro e y9 ⟨rfl, q, rfl⟩
    replace k0 : (wc.drewN q).cell? ⟨bC, 0, none⟩ = some (.slice vA L.length vC) := k0
    replace k1 : (wc.drewN q).cell? ⟨bC, 1, none⟩ = some (.string ⟨i1.toArray⟩) := k1
    replace k2 : (wc.drewN q).cell? ⟨bC, 2, none⟩ = some (.bool h1) := k2
    replace k3 : (wc.drewN q).cell? ⟨bC, 3, none⟩ = some (.string ⟨i2.toArray⟩) := k3
    replace k4 : (wc.drewN q).cell? ⟨bC, 4, none⟩ = some (.bool h2) := k4
    replace k5 : (wc.drewN q).cell? ⟨bC, 5, none⟩ = some (.slice aA ([tx]).length aC) := k5
    replace k6 : (wc.drewN q).cell? ⟨bC, 6, none⟩ = some (.bool true) := k6
    replace k7 : (wc.drewN q).cell? ⟨bC, 7, none⟩ = some (.string ⟨i3.toArray⟩) := k7
    replace k8 : (wc.drewN q).cell? ⟨bC, 8, none⟩ = some (.bool h3) := k8
    replace k9 : (wc.drewN q).cell? ⟨bC, 9, none⟩ = some (.bool m4.has) := k9
    replace k10 : (wc.drewN q).cell? ⟨bC, 10, none⟩ = some (.int .i64 m4.at_) := k10
    replace k11 : (wc.drewN q).cell? ⟨bC, 11, none⟩ = some (.bool m5.has) := k11
    replace k12 : (wc.drewN q).cell? ⟨bC, 12, none⟩ = some (.int .i64 m5.at_) := k12
    replace k13 : (wc.drewN q).cell? ⟨bC, 13, none⟩ = some (.bool m6.has) := k13
    replace k14 : (wc.drewN q).cell? ⟨bC, 14, none⟩ = some (.int .i64 m6.at_) := k14
    replace t4a : (wc.drewN q).cell? ⟨b4, 0, none⟩ = some (.bool m4.has) := t4a
    replace t4b : (wc.drewN q).cell? ⟨b4, 1, none⟩ = some (.int .i64 m4.at_) := t4b
    replace t5a : (wc.drewN q).cell? ⟨b5, 0, none⟩ = some (.bool m5.has) := t5a
    replace t5b : (wc.drewN q).cell? ⟨b5, 1, none⟩ = some (.int .i64 m5.at_) := t5b
    replace t6a : (wc.drewN q).cell? ⟨b6, 0, none⟩ = some (.bool m6.has) := t6a
    replace t6b : (wc.drewN q).cell? ⟨b6, 1, none⟩ = some (.int .i64 m6.at_) := t6b
    have CT := HCT.out q
    clear HCT
    go_wp2_with fail
    refine CT.mono ?_
    clear CT
    rintro e y9 ⟨rfl, q', rfl⟩
    go_wp2
    go_ret
    exact ⟨rfl, below_drewN HBw.out _⟩
  · obtain rfl := Hb.out hc
    rw [show (!(o1 && o2 && o3 && o4 && o5 && o6 && true)) = true from by rw [ho]; rfl]
    clear HOK ho hc Hb
    go_wp2
    go_ret
    exact ⟨rfl, HB5.out.trans (HQ.out.mono HB5.out.size)⟩

end Go.Proofs.YthlfboaidhgnlaaGreatDoor

namespace Go.Proofs.YthlfboaidhgnlaaGreatDoor
open Go.RowKit Go.Shelf

theorem allT_take {v : List Nd} {L : List Nat} {j : Nat} (hj : j < L.length) : allT v (L.take (j + 1)) = (allT v (L.take j) && ((v.getD (L.getD j 0) (nd0 0)).kind == 5)) := by
  unfold allT
  rw [List.take_add_one, List.getElem?_eq_getElem hj, List.all_append]
  congr 1
  have e : L.getD j 0 = L[j] := by rw [List.getD_eq_getElem?_getD, List.getElem?_eq_getElem hj]; rfl
  rw [e]
  simp only [Option.toList_some, List.all_cons, List.all_nil, Bool.and_true]
  rw [Bool.eq_iff_iff, decide_eq_true_eq, beq_iff_eq]
set_option maxRecDepth 100000 in
set_option maxHeartbeats 16000000 in
theorem said_list (t : List UInt8) (w : World) (hG : GL w.heap.size w) (hf0 : (parseF t).2.1 = 0) (h70 : ((parseF t).1.getD 0 (nd0 0)).kind = 7) (k : Nat) (hka : memF (parseF t).1 0 kAud = (k : Int)) (hk5 : ((parseF t).1.getD k (nd0 0)).kind ≠ 5) :
    Calls Tryz.prog 5 #[.string ⟨t.toArray⟩] w fun e w' => e = .returned (.bool true) ∧ Below w.heap.size w w' := by
  have HGq : Hid (∀ wq, Below w.heap.size w wq → GL wq.heap.size wq) := fun wq hq => (hG.below hq).up hq.size
  have CA := awake_any w hG
  have hbd := parse_bd t
  obtain ⟨cc, hcc⟩ : ∃ c, (cparseF t).1 = c := ⟨_, rfl⟩
  obtain ⟨ce, hce⟩ : ∃ c, (cparseF t).2 = c := ⟨_, rfl⟩
  have HCP : Hid (∀ wq, Below w.heap.size w wq → Calls Tryz.prog 13 #[.string ⟨t.toArray⟩] wq fun e w' => (∃ va aa, e = .returned (.tuple #[clV va aa cc, .int .i64 (ce : Nat)]) ∧ NO wq.heap.size w' va cc.val ∧ OT wq.heap.size w' aa cc.aud) ∧ Below wq.heap.size wq w') := fun wq hq => by
    have := cparse_any t wq (HGq.out wq hq)
    rw [hcc, hce] at this
    exact this
  have HJP : Hid (∀ wq, Below w.heap.size w wq → Calls Tryz.prog 16 #[.string ⟨t.toArray⟩] wq fun e w' => Below wq.heap.size wq w' ∧ ∃ v, e = .returned (.tuple #[v, .int .i64 ((parseF t).2.1 : Int), .int .i64 ((parseF t).2.2 : Int)]) ∧ NO wq.heap.size w' v (parseF t).1) := fun wq hq => parse_all t wq (HGq.out wq hq)
  have hcb : cc.val.length ≤ 1000000000 ∧ cc.aud.length ≤ 1000000000 := by
    rw [← hcc]
    unfold cparseF
    have h1 := hbd.1
    split
    · exact ⟨Nat.zero_le _, Nat.zero_le _⟩
    · split
      · exact ⟨Nat.zero_le _, Nat.zero_le _⟩
      · split
        · refine ⟨by show (parseF t).1.length ≤ _; omega, ?_⟩
          show (tsF (parseF t).1 kAud).1.length ≤ _
          unfold tsF
          split
          · simp
          · split
            · simp
            · rw [List.length_map]
              have := @kids_len (parseF t).1 (memF (parseF t).1 0 kAud)
              omega
        · exact ⟨Nat.zero_le _, Nat.zero_le _⟩
  obtain ⟨L, hL⟩ : ∃ l, (parseF t).1 = l := ⟨_, rfl⟩
  obtain ⟨f, hf⟩ : ∃ l, (parseF t).2.1 = l := ⟨_, rfl⟩
  obtain ⟨p, hp⟩ : ∃ l, (parseF t).2.2 = l := ⟨_, rfl⟩
  rw [hL, hf, hp] at HJP
  rw [hL] at hbd
  have HF0 : Hid (f = 0) := by rw [← hf]; exact hf0
  have hbd0 := hbd.1
  have HSQ : Sq 0 [[]] L := by rw [← hL]; exact parse_val hf0
  have hpos : 0 < L.length := (all_of HSQ hbd0).1
  have h7 : (L.getD 0 (nd0 0)).kind = 7 := by rw [← hL]; exact h70
  have HOK : Hid ((okF L = true ∧ cc = saidF L ∧ ce = 0) ∨ (okF L = false ∧ cc = cm0 ∧ ce = 131)) := by
    show _ ∨ _
    rw [ok_all HSQ hbd0 h7, ← hcc, ← hce, ← hL]
    unfold cparseF
    rw [if_neg (fun h => h hf0), if_neg (fun h => h h70)]
    cases hz : (kidsF (parseF t).1 0).all (fitF (parseF t).1)
    · exact .inr ⟨rfl, rfl, rfl⟩
    · exact .inl ⟨rfl, rfl, rfl⟩
  have HSF : Hid (saidF L = ⟨L, (txF L kIss).1, (txF L kIss).2, (txF L kSub).1, (txF L kSub).2, (tsF L kAud).1, (tsF L kAud).2, (txF L kJti).1, (txF L kJti).2, moF L kExp, moF L kNbf, moF L kIat⟩) := rfl
  have HOF : Hid (okF L = (okT L kIss && okT L kSub && okT L kJti && okM L kExp && okM L kNbf && okM L kIat && okA L kAud)) := rfl
  have hk : memF L 0 kAud = (k : Int) := by rw [← hL]; exact hka
  have hkl : k < L.length := by
    rcases mem_in L kAud with e | ⟨k', hk', e, _⟩
    · rw [hk] at e; omega
    · rw [hk] at e
      have := kidsF_lt k' hk'
      omega
  have hkK : (L.getD k (nd0 0)).kind ≠ 5 := by rw [← hL]; exact hk5
  have HTS : Hid (tsF L kAud = ((kidsF L (k : Int)).map (fun i => (L.getD i (nd0 0)).text), true) ∧ okA L kAud = (((L.getD k (nd0 0)).kind == 6) && allT L (kidsF L (k : Int)))) := by
    refine ⟨?_, ?_⟩
    · unfold tsF; rw [hk, if_neg (by omega), Int.toNat_natCast, if_neg hkK]
    · unfold okA
      rw [hk, Int.toNat_natCast, decide_eq_false hkK, decide_eq_false (by omega)]
      rw [Bool.false_or, Bool.false_or]
      rfl
  clear HSQ hf0 h70
  clear hG hcc hce hL hf hp HGq
  obtain ⟨cv, ci, chi, cs, chs, ca, cha, cj, chj, ce1, ce2, ce3⟩ := cc
  dsimp only at hcb HCP
  go_enter Tryz.func5, Tryz.ntmps5
  go_wp2_with fail
  refine CA.mono ?_
  clear CA
  rintro e w1 ⟨rfl, hB⟩
  have HB1 : Hid (Below w.heap.size w w1) := hB
  have CP := HCP.out w1 hB
  clear hB HCP
  go_wp2_with fail
  refine CP.mono ?_
  clear CP
  rintro e w2 ⟨⟨va, aa, rfl, hno, hot⟩, hB⟩
  obtain ⟨vA, vC, hcN⟩ := hno.nr
  obtain ⟨e1, _, _⟩ := id hcN
  subst e1
  obtain ⟨aA, aC, e2, hcT⟩ := hot.tr
  subst e2
  have HB2 : Hid (Below w.heap.size w w2) := HB1.out.trans (hB.mono HB1.out.size)
  clear hno hot hB HB1
  unfold clV
  dsimp only at *
  obtain ⟨w3, hw3⟩ : ∃ x, w2.alloc (.cells #[.slice vA cv.length vC, .string ⟨ci.toArray⟩, .bool chi, .string ⟨cs.toArray⟩, .bool chs, .slice aA ca.length aC, .bool cha, .string ⟨cj.toArray⟩, .bool chj, .bool ce1.has, .int .i64 ce1.at_, .bool ce2.has, .int .i64 ce2.at_, .bool ce3.has, .int .i64 ce3.at_] 27) = x := ⟨_, rfl⟩
  have hA3 : Below w2.heap.size w2 w3 := by rw [← hw3]; exact alloc_below _ _
  have hbC : Bl 27 w3 w2.heap.size [.slice vA cv.length vC, .string ⟨ci.toArray⟩, .bool chi, .string ⟨cs.toArray⟩, .bool chs, .slice aA ca.length aC, .bool cha, .string ⟨cj.toArray⟩, .bool chj, .bool ce1.has, .int .i64 ce1.at_, .bool ce2.has, .int .i64 ce2.at_, .bool ce3.has, .int .i64 ce3.at_] := by rw [← hw3]; exact alloc_bl _ _ _
  obtain ⟨bC, hbCe⟩ : ∃ b, w2.heap.size = b := ⟨_, rfl⟩
  rw [hbCe] at hbC
  have HBC : Hid (w2.heap.size = bC) := hbCe
  have HW3 : Hid (w2.alloc (.cells #[.slice vA cv.length vC, .string ⟨ci.toArray⟩, .bool chi, .string ⟨cs.toArray⟩, .bool chs, .slice aA ca.length aC, .bool cha, .string ⟨cj.toArray⟩, .bool chj, .bool ce1.has, .int .i64 ce1.at_, .bool ce2.has, .int .i64 ce2.at_, .bool ce3.has, .int .i64 ce3.at_] 27) = w3) := hw3
  have HB3 : Hid (Below w.heap.size w w3) := HB2.out.trans (hA3.mono HB2.out.size)
  have HcN : Hid (∀ wq, Below w3.heap.size w3 wq → NR wq (.slice vA cv.length vC) cv vA vC) := fun wq hq => (hcN.below hA3 (Nat.le_refl _)).below hq (Nat.le_refl _)
  have HcT : Hid (∀ wq, Below w3.heap.size w3 wq → TR wq (.slice aA ca.length aC) ca aA aC) := fun wq hq => (hcT.below hA3 (Nat.le_refl _)).below hq (Nat.le_refl _)
  have HRC : Hid (∀ wq, Below w3.heap.size w3 wq → wq.rangeAt bC 0 [.slice vA cv.length vC, .string ⟨ci.toArray⟩, .bool chi, .string ⟨cs.toArray⟩, .bool chs, .slice aA ca.length aC, .bool cha, .string ⟨cj.toArray⟩, .bool chj, .bool ce1.has, .int .i64 ce1.at_, .bool ce2.has, .int .i64 ce2.at_, .bool ce3.has, .int .i64 ce3.at_]) := fun wq hq j v hv => by
    obtain ⟨hj, e⟩ := List.getElem?_eq_some_iff.1 hv
    rw [Nat.zero_add, ← e]
    exact (hbC.below hq hbC.lt).cell j hj
  have hcl : (Tryz.prog.info? 27).map (·.size) = some ([.slice vA cv.length vC, .string ⟨ci.toArray⟩, .bool chi, .string ⟨cs.toArray⟩, .bool chs, .slice aA ca.length aC, .bool cha, .string ⟨cj.toArray⟩, .bool chj, .bool ce1.has, .int .i64 ce1.at_, .bool ce2.has, .int .i64 ce2.at_, .bool ce3.has, .int .i64 ce3.at_] : List Value).length := by kernel_rfl
  have CJ := HJP.out w3 HB3.out
  clear hw3 hA3 hbC hbCe hcN hcT HJP
  go_wp2_with fail
  rw [HBC.out, HW3.out]
  clear HBC HW3
  refine CJ.mono ?_
  clear CJ
  rintro e w4 ⟨hB, v, rfl, hno⟩
  obtain ⟨ao, cap, hN⟩ := hno.nr
  obtain ⟨e1, hcap, _⟩ := id hN
  subst e1
  have HY4 : Hid (Below w3.heap.size w3 w4) := hB
  have HN4 : Hid (NR w4 (.slice ao L.length cap) L ao cap) := hN
  have CE : Calls Tryz.prog 14 #[.agg #[.slice vA cv.length vC, .string ⟨ci.toArray⟩, .bool chi, .string ⟨cs.toArray⟩, .bool chs, .slice aA ca.length aC, .bool cha, .string ⟨cj.toArray⟩, .bool chj, .bool ce1.has, .int .i64 ce1.at_, .bool ce2.has, .int .i64 ce2.at_, .bool ce3.has, .int .i64 ce3.at_], .agg #[.slice none 0 0, .string ⟨#[]⟩, .bool false, .string ⟨#[]⟩, .bool false, .slice none 0 0, .bool false, .string ⟨#[]⟩, .bool false, .bool false, .int .i64 0, .bool false, .int .i64 0, .bool false, .int .i64 0]] w4 fun e w' => (∃ b, e = .returned (.bool b) ∧ ((⟨cv, ci, chi, cs, chs, ca, cha, cj, chj, ce1, ce2, ce3⟩ : Cm) = cm0 → b = true)) ∧ Below w4.heap.size w4 w' := by
    by_cases h0 : (⟨cv, ci, chi, cs, chs, ca, cha, cj, chj, ce1, ce2, ce3⟩ : Cm) = cm0
    · have h1 := csame_eq vA vC aA aC none 0 none 0 ⟨cv, ci, chi, cs, chs, ca, cha, cj, chj, ce1, ce2, ce3⟩ w4 (HcN.out w4 hB) (HcT.out w4 hB) (by rw [show cv = ([] : List Nd) from congrArg Cm.val h0]; exact ⟨rfl, Nat.le_refl _, .inl rfl⟩) (by rw [show ca = ([] : List (List UInt8)) from congrArg Cm.aud h0]; exact ⟨rfl, Nat.le_refl _, .inl rfl⟩) hcb.1 (Nat.le_trans hcb.2 (by decide))
      have h2 : clV (.slice none cv.length 0) (.slice none ca.length 0) ⟨cv, ci, chi, cs, chs, ca, cha, cj, chj, ce1, ce2, ce3⟩ = .agg #[.slice none 0 0, .string ⟨#[]⟩, .bool false, .string ⟨#[]⟩, .bool false, .slice none 0 0, .bool false, .string ⟨#[]⟩, .bool false, .bool false, .int .i64 0, .bool false, .int .i64 0, .bool false, .int .i64 0] := by
        rw [show cv.length = 0 from by rw [show cv = ([] : List Nd) from congrArg Cm.val h0]; rfl, show ca.length = 0 from by rw [show ca = ([] : List (List UInt8)) from congrArg Cm.aud h0]; rfl, h0]
        rfl
      rw [show clV (.slice none (⟨cv, ci, chi, cs, chs, ca, cha, cj, chj, ce1, ce2, ce3⟩ : Cm).val.length 0) (.slice none (⟨cv, ci, chi, cs, chs, ca, cha, cj, chj, ce1, ce2, ce3⟩ : Cm).aud.length 0) ⟨cv, ci, chi, cs, chs, ca, cha, cj, chj, ce1, ce2, ce3⟩ = .agg #[.slice none 0 0, .string ⟨#[]⟩, .bool false, .string ⟨#[]⟩, .bool false, .slice none 0 0, .bool false, .string ⟨#[]⟩, .bool false, .bool false, .int .i64 0, .bool false, .int .i64 0, .bool false, .int .i64 0] from h2] at h1
      exact h1.mono (fun _ _ h => ⟨⟨true, h.1, fun _ => rfl⟩, h.2⟩)
    · have h1 := csame_some vA vC aA aC none 0 none 0 ⟨cv, ci, chi, cs, chs, ca, cha, cj, chj, ce1, ce2, ce3⟩ cm0 w4 (HcN.out w4 hB) (HcT.out w4 hB) ⟨rfl, Nat.le_refl _, .inl rfl⟩ ⟨rfl, Nat.le_refl _, .inl rfl⟩ hcb.1 (Nat.le_trans hcb.2 (by decide))
      exact h1.mono (fun _ _ ⟨⟨b, hb⟩, h⟩ => ⟨⟨b, hb, fun h => absurd h h0⟩, h⟩)
  have HR4 := HRC.out w4 hB
  clear hB hno hN
  go_wp2_with (refine wpList_load_mid rfl 27 (.tmp 3) rfl bC 0 rfl [.slice vA cv.length vC, .string ⟨ci.toArray⟩, .bool chi, .string ⟨cs.toArray⟩, .bool chs, .slice aA ca.length aC, .bool cha, .string ⟨cj.toArray⟩, .bool chj, .bool ce1.has, .int .i64 ce1.at_, .bool ce2.has, .int .i64 ce2.at_, .bool ce3.has, .int .i64 ce3.at_] _ HR4 Tryz.underlying27 rfl hcl ?_)
  refine CE.mono ?_
  clear CE HR4
  rintro e w5 ⟨⟨b, rfl, hb⟩, hB⟩
  have HY5 : Hid (Below w3.heap.size w3 w5) := HY4.out.trans (hB.mono HY4.out.size)
  have HN5 : Hid (NR w5 (.slice ao L.length cap) L ao cap) := HN4.out.below hB (Nat.le_refl _)
  have HB5 : Hid (Below w.heap.size w w5) := HB3.out.trans (HY5.out.mono HB3.out.size)
  have Hb : Hid ((⟨cv, ci, chi, cs, chs, ca, cha, cj, chj, ce1, ce2, ce3⟩ : Cm) = cm0 → b = true) := hb
  clear hB HY4 HN4 hb
  obtain rfl := HF0.out
  clear HF0 hka hk5
  have HQ : Hid (Below w5.heap.size w5 w5) := Below.refl _ _
  obtain ⟨g, off, rfl, hcell⟩ := HN5.out.at hpos
  have ck := hcell 0 (.int .i64 7) (by omega) (by rw [← h7]; rfl)
  simp only [Nat.zero_mul, Nat.add_zero] at ck
  have hbv : 0 < (L.length : Int) := by omega
  have HNq : Hid (∀ wq, Below w5.heap.size w5 wq → NR wq (.slice (some ⟨g, off, none⟩) L.length cap) L (some ⟨g, off, none⟩) cap) := fun wq hq => HN5.out.below hq (Nat.le_refl _)
  have HS1 : Hid (∀ k wq, Below w5.heap.size w5 wq → Calls Tryz.prog 17 #[.slice (some ⟨g, off, none⟩) L.length cap, .string ⟨k.toArray⟩] wq fun e w' => e = .returned (.tuple #[.string ⟨(txF L k).1.toArray⟩, .bool (txF L k).2, .bool (okT L k)]) ∧ Below wq.heap.size wq w') := fun k wq hq => string1_any L _ cap k wq (HNq.out wq hq) (by omega)
  have HS2 : Hid (∀ k wq, Below w5.heap.size w5 wq → Calls Tryz.prog 18 #[.slice (some ⟨g, off, none⟩) L.length cap, .string ⟨k.toArray⟩] wq fun e w' => e = .returned (.tuple #[tmV (moF L k), .bool (okM L k)]) ∧ Below wq.heap.size wq w') := fun k wq hq => whole_any9 L _ cap k wq (HNq.out wq hq) (by omega)
  have HMe : Hid (∀ wq, Below w5.heap.size w5 wq → Calls Tryz.prog 19 #[.slice (some ⟨g, off, none⟩) L.length cap, .int .i64 0, .string ⟨kAud.toArray⟩] wq fun e w' => e = .returned (.int .i64 (memF L 0 kAud)) ∧ Below wq.heap.size wq w') := fun wq hq => member_any _ L _ cap 0 kAud wq (HNq.out wq hq) (by omega)
  have HC1 := HS1.out kIss
  have HC2 := HS1.out kSub
  have HC3 := HS1.out kJti
  have HC4 := HS2.out kExp
  have HC5 := HS2.out kNbf
  have HC6 := HS2.out kIat
  rw [HSF.out] at HOK
  rw [HOF.out] at HOK
  obtain ⟨i1, hi1⟩ : ∃ x, (txF L kIss).1 = x := ⟨_, rfl⟩
  obtain ⟨h1, hh1⟩ : ∃ x, (txF L kIss).2 = x := ⟨_, rfl⟩
  obtain ⟨o1, ho1⟩ : ∃ x, okT L kIss = x := ⟨_, rfl⟩
  rw [hi1, hh1, ho1] at HC1
  rw [hi1, hh1, ho1] at HOK
  obtain ⟨i2, hi2⟩ : ∃ x, (txF L kSub).1 = x := ⟨_, rfl⟩
  obtain ⟨h2, hh2⟩ : ∃ x, (txF L kSub).2 = x := ⟨_, rfl⟩
  obtain ⟨o2, ho2⟩ : ∃ x, okT L kSub = x := ⟨_, rfl⟩
  rw [hi2, hh2, ho2] at HC2
  rw [hi2, hh2, ho2] at HOK
  obtain ⟨i3, hi3⟩ : ∃ x, (txF L kJti).1 = x := ⟨_, rfl⟩
  obtain ⟨h3, hh3⟩ : ∃ x, (txF L kJti).2 = x := ⟨_, rfl⟩
  obtain ⟨o3, ho3⟩ : ∃ x, okT L kJti = x := ⟨_, rfl⟩
  rw [hi3, hh3, ho3] at HC3
  rw [hi3, hh3, ho3] at HOK
  obtain ⟨m4, hm4⟩ : ∃ x, moF L kExp = x := ⟨_, rfl⟩
  obtain ⟨o4, ho4⟩ : ∃ x, okM L kExp = x := ⟨_, rfl⟩
  rw [hm4, ho4] at HC4
  rw [hm4, ho4] at HOK
  obtain ⟨m5, hm5⟩ : ∃ x, moF L kNbf = x := ⟨_, rfl⟩
  obtain ⟨o5, ho5⟩ : ∃ x, okM L kNbf = x := ⟨_, rfl⟩
  rw [hm5, ho5] at HC5
  rw [hm5, ho5] at HOK
  obtain ⟨m6, hm6⟩ : ∃ x, moF L kIat = x := ⟨_, rfl⟩
  obtain ⟨o6, ho6⟩ : ∃ x, okM L kIat = x := ⟨_, rfl⟩
  rw [hm6, ho6] at HC6
  rw [hm6, ho6] at HOK
  have HD1 : Hid _ := HC1
  have HD2 : Hid _ := HC2
  have HD3 : Hid _ := HC3
  have HD4 : Hid _ := HC4
  have HD5 : Hid _ := HC5
  have HD6 : Hid _ := HC6
  clear HS1 HS2 HSF HOF hcell HC1 ho1 HC2 ho2 HC3 ho3 HC4 ho4 HC5 ho5 HC6 ho6 hi1 hh1 hi2 hh2 hi3 hh3 hm4 hm5 hm6
  rw [HTS.out.1] at HOK
  obtain ⟨o7, ho7⟩ : ∃ x, okA L kAud = x := ⟨_, rfl⟩
  rw [ho7] at HOK
  have HO7 : Hid ((((L.getD k (nd0 0)).kind == 6) && allT L (kidsF L (k : Int))) = o7) := HTS.out.2.symm.trans ho7
  rw [hk] at HMe
  clear HTS hk ho7
  have C0 := HD1.out w5 HQ.out
  clear HD1
  go_wp2_with fail
  refine C0.mono ?_
  clear C0 ck
  rintro e y1 ⟨rfl, hB⟩
  have HQn : Hid (Below w5.heap.size w5 y1) := HQ.out.trans (hB.mono HQ.out.size)
  clear HQ hB
  have HQ := HQn
  clear HQn
  have C0 := HD2.out y1 HQ.out
  clear HD2
  go_wp2_with fail
  refine C0.mono ?_
  clear C0
  rintro e y2 ⟨rfl, hB⟩
  have HQn : Hid (Below w5.heap.size w5 y2) := HQ.out.trans (hB.mono HQ.out.size)
  clear HQ hB
  have HQ := HQn
  clear HQn
  have C0 := HD3.out y2 HQ.out
  clear HD3
  go_wp2_with fail
  refine C0.mono ?_
  clear C0
  rintro e y3 ⟨rfl, hB⟩
  have HQn : Hid (Below w5.heap.size w5 y3) := HQ.out.trans (hB.mono HQ.out.size)
  clear HQ hB
  have HQ := HQn
  clear HQn
  have C0 := HD4.out y3 HQ.out
  clear HD4
  go_wp2_with fail
  refine C0.mono ?_
  clear C0
  rintro e y4 ⟨rfl, hB⟩
  have HQn : Hid (Below w5.heap.size w5 y4) := HQ.out.trans (hB.mono HQ.out.size)
  clear HQ hB
  have HQ := HQn
  clear HQn
  unfold tmV
  obtain ⟨z4, hz⟩ : ∃ x, y4.alloc (.cells #[.bool m4.has, .int .i64 m4.at_] 25) = x := ⟨_, rfl⟩
  have hA : Below y4.heap.size y4 z4 := by rw [← hz]; exact alloc_below _ _
  obtain ⟨b4, hbe⟩ : ∃ b, y4.heap.size = b := ⟨_, rfl⟩
  have hX : Bl 25 z4 y4.heap.size (tmC m4) := by rw [← hz]; exact alloc_bl _ _ _
  rw [hbe] at hX
  have HX4 : Hid (Bl 25 z4 b4 (tmC m4)) := hX
  have HQn : Hid (Below w5.heap.size w5 z4) := HQ.out.trans (hA.mono HQ.out.size)
  have HWt : Hid (y4.alloc (.cells #[.bool m4.has, .int .i64 m4.at_] 25) = z4) := hz
  have HBe4 : Hid (y4.heap.size = b4) := hbe
  clear HQ hA hX hz hbe
  have HQ := HQn
  clear HQn
  have C0 := HD5.out z4 HQ.out
  clear HD5
  go_wp2_with fail
  rw [HWt.out]
  clear HWt
  refine C0.mono ?_
  clear C0
  rintro e y5 ⟨rfl, hB⟩
  have HQn : Hid (Below w5.heap.size w5 y5) := HQ.out.trans (hB.mono HQ.out.size)
  have HX4n : Hid (Bl 25 y5 b4 (tmC m4)) := HX4.out.below hB HX4.out.lt
  clear HX4
  have HX4 := HX4n
  clear HX4n
  clear HQ hB
  have HQ := HQn
  clear HQn
  unfold tmV
  obtain ⟨z5, hz⟩ : ∃ x, y5.alloc (.cells #[.bool m5.has, .int .i64 m5.at_] 25) = x := ⟨_, rfl⟩
  have hA : Below y5.heap.size y5 z5 := by rw [← hz]; exact alloc_below _ _
  obtain ⟨b5, hbe⟩ : ∃ b, y5.heap.size = b := ⟨_, rfl⟩
  have hX : Bl 25 z5 y5.heap.size (tmC m5) := by rw [← hz]; exact alloc_bl _ _ _
  rw [hbe] at hX
  have HX5 : Hid (Bl 25 z5 b5 (tmC m5)) := hX
  have HX4n : Hid (Bl 25 z5 b4 (tmC m4)) := HX4.out.below hA HX4.out.lt
  clear HX4
  have HX4 := HX4n
  clear HX4n
  have HQn : Hid (Below w5.heap.size w5 z5) := HQ.out.trans (hA.mono HQ.out.size)
  have HWt : Hid (y5.alloc (.cells #[.bool m5.has, .int .i64 m5.at_] 25) = z5) := hz
  have HBe5 : Hid (y5.heap.size = b5) := hbe
  clear HQ hA hX hz hbe
  have HQ := HQn
  clear HQn
  have C0 := HD6.out z5 HQ.out
  clear HD6
  go_wp2_with fail
  rw [HWt.out]
  clear HWt
  refine C0.mono ?_
  clear C0
  rintro e y6 ⟨rfl, hB⟩
  have HQn : Hid (Below w5.heap.size w5 y6) := HQ.out.trans (hB.mono HQ.out.size)
  have HX4n : Hid (Bl 25 y6 b4 (tmC m4)) := HX4.out.below hB HX4.out.lt
  clear HX4
  have HX4 := HX4n
  clear HX4n
  have HX5n : Hid (Bl 25 y6 b5 (tmC m5)) := HX5.out.below hB HX5.out.lt
  clear HX5
  have HX5 := HX5n
  clear HX5n
  clear HQ hB
  have HQ := HQn
  clear HQn
  unfold tmV
  obtain ⟨z6, hz⟩ : ∃ x, y6.alloc (.cells #[.bool m6.has, .int .i64 m6.at_] 25) = x := ⟨_, rfl⟩
  have hA : Below y6.heap.size y6 z6 := by rw [← hz]; exact alloc_below _ _
  obtain ⟨b6, hbe⟩ : ∃ b, y6.heap.size = b := ⟨_, rfl⟩
  have hX : Bl 25 z6 y6.heap.size (tmC m6) := by rw [← hz]; exact alloc_bl _ _ _
  rw [hbe] at hX
  have HX6 : Hid (Bl 25 z6 b6 (tmC m6)) := hX
  have HX4n : Hid (Bl 25 z6 b4 (tmC m4)) := HX4.out.below hA HX4.out.lt
  clear HX4
  have HX4 := HX4n
  clear HX4n
  have HX5n : Hid (Bl 25 z6 b5 (tmC m5)) := HX5.out.below hA HX5.out.lt
  clear HX5
  have HX5 := HX5n
  clear HX5n
  have HQn : Hid (Below w5.heap.size w5 z6) := HQ.out.trans (hA.mono HQ.out.size)
  have HWt : Hid (y6.alloc (.cells #[.bool m6.has, .int .i64 m6.at_] 25) = z6) := hz
  have HBe6 : Hid (y6.heap.size = b6) := hbe
  clear HQ hA hX hz hbe
  have HQ := HQn
  clear HQn
  have C0 := HMe.out z6 HQ.out
  clear HMe
  go_wp2_with fail
  rw [HBe4.out, HBe5.out, HBe6.out, HWt.out]
  clear HWt HBe4 HBe5 HBe6
  refine C0.mono ?_
  clear C0
  rintro e x0 ⟨rfl, hB⟩
  have HQn : Hid (Below w5.heap.size w5 x0) := HQ.out.trans (hB.mono HQ.out.size)
  have HX4n : Hid (Bl 25 x0 b4 (tmC m4)) := HX4.out.below hB HX4.out.lt
  clear HX4
  have HX4 := HX4n
  clear HX4n
  have HX5n : Hid (Bl 25 x0 b5 (tmC m5)) := HX5.out.below hB HX5.out.lt
  clear HX5
  have HX5 := HX5n
  clear HX5n
  have HX6n : Hid (Bl 25 x0 b6 (tmC m6)) := HX6.out.below hB HX6.out.lt
  clear HX6
  have HX6 := HX6n
  clear HX6n
  clear HQ hB
  have HQ := HQn
  clear HQn
  obtain ⟨g9, off9, e9, hc9⟩ := (HNq.out x0 HQ.out).at hkl
  cases e9
  obtain ⟨K, hK⟩ : ∃ K, (L.getD k (nd0 0)).kind = K := ⟨_, rfl⟩
  have kk0 := hc9 0 (.int .i64 K) (by omega) (by rw [← hK]; rfl)
  rw [Nat.add_zero] at kk0
  rw [hK] at hkK HO7
  have q5 : (K == 5) = false := by simpa using hkK
  have qk : decide ((k : Int) ≥ 0) = true := decide_eq_true (by omega)
  have CK := kids_any _ L _ cap (k : Int) x0 (HNq.out x0 HQ.out) (by omega)
  have HLT : Hid (∀ i ∈ kidsF L (k : Int), i < L.length) := kidsF_lt
  have hlen : (kidsF L (k : Int)).length ≤ 262144 := Nat.le_trans kids_len hbd0
  generalize kidsF L (k : Int) = M at *
  clear hc9 hkK hK
  go_wp2_with fail
  refine CK.mono ?_
  clear CK kk0
  rintro e x1 ⟨r, rfl, hoi⟩
  obtain ⟨ka, kc, rfl, hkc, hkat⟩ := hoi.at
  have HAT : Hid (∀ wx, Below x1.heap.size x1 wx → ∀ j, j < M.length → ∃ g, ka = some ⟨g, 0, none⟩ ∧ wx.cell? ⟨g, j, none⟩ = some (iV (M.getD j 0))) := fun wx hx j hj => by
    obtain ⟨g', e, hc⟩ := hkat j hj
    exact ⟨g', e, cell_but hc fun _ => hx.block g' (World.block_lt_of_cell? _ _ hc)⟩
  have HQ1 : Hid (Below w5.heap.size w5 x1) := HQ.out.trans (hoi.bel.mono HQ.out.size)
  have HX4n : Hid (Bl 25 x1 b4 (tmC m4)) := HX4.out.below hoi.bel HX4.out.lt
  have HX5n : Hid (Bl 25 x1 b5 (tmC m5)) := HX5.out.below hoi.bel HX5.out.lt
  have HX6n : Hid (Bl 25 x1 b6 (tmC m6)) := HX6.out.below hoi.bel HX6.out.lt
  clear hoi hkat HQ HX4 HX5 HX6
  go_wp2
  go_loopw [28, 24, 25] (fun s28 s24 s25 wx => ∃ (j : Nat), s28 = .int .i64 j ∧ j ≤ M.length ∧ OT x1.heap.size wx s24 ((M.take j).map (fun i => (L.getD i (nd0 0)).text)) ∧ s25 = .bool ((K == 6) && allT L (M.take j)) ∧ Below x1.heap.size x1 wx) (fun x _ _ _ => M.length - (intOf x).toNat)
  case atStart => exact ⟨0, rfl, Nat.zero_le _, World.ownsRow_nil _ _ _ _, by show Value.bool _ = Value.bool (_ && true); rw [Bool.and_true], Below.refl _ _⟩
  case round =>
    obtain ⟨j, rfl, hj, ho, rfl, hb⟩ := hrel
    have HO : Hid (OT x1.heap.size wr _ ((M.take j).map (fun i => (L.getD i (nd0 0)).text))) := ho
    have HBr : Hid (Below x1.heap.size x1 wr) := hb
    obtain ⟨va, vc, rfl, _, _⟩ := own_slice ho
    rw [List.length_map, List.length_take_of_le hj] at HO ⊢
    clear ho hb
    by_cases hjl : j < M.length
    · have q1 : decide ((j : Int) < (M.length : Int)) = true := by simp; omega
      obtain ⟨kg, rfl, ckj⟩ := HAT.out wr HBr.out j hjl
      have hml : M.getD j 0 < L.length := HLT.out _ (by rw [List.getD_eq_getElem?_getD, List.getElem?_eq_getElem hjl]; exact List.getElem_mem hjl)
      have htm := take_map (v := L) hjl
      have hat := allT_take (v := L) hjl
      obtain ⟨g2, off2, e2, hc3⟩ := (HNq.out wr (HQ1.out.trans (HBr.out.mono HQ1.out.size))).at hml
      cases e2
      generalize M.getD j 0 = m at *
      obtain ⟨x, hx⟩ : ∃ n, L.getD m (nd0 0) = n := ⟨_, rfl⟩
      rw [hx] at hc3 htm hat
      have ck2 := hc3 2 (.string ⟨x.text.toArray⟩) (by omega) rfl
      have ck0 := hc3 0 (.int .i64 x.kind) (by omega) rfl
      rw [Nat.add_zero] at ck0
      unfold iV at ckj
      obtain ⟨b9, hb9⟩ : ∃ b, ((K == 6) && allT L (M.take j)) = b := ⟨_, rfl⟩
      have HNB : Hid (.bool (b9 && (x.kind == 5)) = Value.bool ((K == 6) && allT L (M.take (j + 1)))) := by
        show _ = _
        rw [hat, ← hb9, Bool.and_assoc]
      rw [hb9]
      clear hc3 hx hat hb9
      cases b9
      · skip
        generalize hT : (M.take j).map (fun i => (L.getD i (nd0 0)).text) = T at *
        have HTl : Hid (T.length = j) := by show T.length = j; rw [← hT, List.length_map, List.length_take_of_le hj]
        have HTM : Hid ((M.take (j + 1)).map (fun i => (L.getD i (nd0 0)).text) = T ++ [x.text]) := htm
        have ho1 : OT x1.heap.size (wr.alloc (.cells #[.string ⟨x.text.toArray⟩] 9)) (.slice va j vc) T := World.ownsRow.alloc HO.out _
        have hsz : x1.heap.size ≤ (wr.alloc (.cells #[.string ⟨x.text.toArray⟩] 9)).heap.size := by rw [alloc_size]; have := HBr.out.size; omega
        have hBa : Below x1.heap.size x1 (wr.alloc (.cells #[.string ⟨x.text.toArray⟩] 9)) := HBr.out.trans ((alloc_below _ _).mono HBr.out.size)
        clear hT htm
        go_wp2_with (at_builtin; refine append_txt (wr := wr.alloc (.cells #[.string ⟨x.text.toArray⟩] 9)) rfl (.tmp 145) (.tmp 154) rfl x1.heap.size (.slice va j vc) T rfl ho1 (some ⟨wr.heap.size, 0, none⟩) 1 [x.text] rfl (one_txt wr x.text) (fun h => by cases h) (by rw [HTl.out]; simp only [List.length_cons, List.length_nil]; omega) hsz ?_; intro v1 w9 ho4 hg4; have HO4 : Hid (OT x1.heap.size w9 v1 (T ++ [x.text])) := ho4; have HB4 : Hid (Below x1.heap.size x1 w9) := hBa.grown hg4 hsz (own_block ho1); clear ho4 hg4 ho1 hBa hsz)
        go_roundw
        case rel => exact ⟨j + 1, by go_num, by omega, by rw [HTM.out]; exact HO4.out, HNB.out, HB4.out⟩
        case measure => simp [intOf]; omega
      · skip
        generalize hT : (M.take j).map (fun i => (L.getD i (nd0 0)).text) = T at *
        have HTl : Hid (T.length = j) := by show T.length = j; rw [← hT, List.length_map, List.length_take_of_le hj]
        have HTM : Hid ((M.take (j + 1)).map (fun i => (L.getD i (nd0 0)).text) = T ++ [x.text]) := htm
        have ho1 : OT x1.heap.size (wr.alloc (.cells #[.string ⟨x.text.toArray⟩] 9)) (.slice va j vc) T := World.ownsRow.alloc HO.out _
        have hsz : x1.heap.size ≤ (wr.alloc (.cells #[.string ⟨x.text.toArray⟩] 9)).heap.size := by rw [alloc_size]; have := HBr.out.size; omega
        have hBa : Below x1.heap.size x1 (wr.alloc (.cells #[.string ⟨x.text.toArray⟩] 9)) := HBr.out.trans ((alloc_below _ _).mono HBr.out.size)
        clear hT htm
        go_wp2_with (at_builtin; refine append_txt (wr := wr.alloc (.cells #[.string ⟨x.text.toArray⟩] 9)) rfl (.tmp 145) (.tmp 154) rfl x1.heap.size (.slice va j vc) T rfl ho1 (some ⟨wr.heap.size, 0, none⟩) 1 [x.text] rfl (one_txt wr x.text) (fun h => by cases h) (by rw [HTl.out]; simp only [List.length_cons, List.length_nil]; omega) hsz ?_; intro v1 w9 ho4 hg4; have HO4 : Hid (OT x1.heap.size w9 v1 (T ++ [x.text])) := ho4; have HB4 : Hid (Below x1.heap.size x1 w9) := hBa.grown hg4 hsz (own_block ho1); clear ho4 hg4 ho1 hBa hsz)
        go_roundw
        case rel => exact ⟨j + 1, by go_num, by omega, by rw [HTM.out]; exact HO4.out, HNB.out, HB4.out⟩
        case measure => simp [intOf]; omega
    · have q1 : decide ((j : Int) < (M.length : Int)) = false := by simp; omega
      have hjm : j = M.length := by omega
      subst hjm
      have e7 : ((K == 6) && allT L (M.take M.length)) = o7 := by rw [List.take_of_length_le (by omega)]; exact HO7.out
      rw [e7]
      have hTr := OT.tr HO.out
      rw [List.take_of_length_le (by omega)] at hTr
      obtain ⟨xa, xc, hTe, hTr⟩ := hTr
      rw [List.length_map] at hTe
      obtain ⟨rfl, _, rfl⟩ := Value.slice.inj hTe
      have HA : Hid (TR wr (.slice va M.length vc) (M.map (fun i => (L.getD i (nd0 0)).text)) va vc) := by rw [List.length_map] at hTr; exact hTr
      have HQ : Hid (Below w5.heap.size w5 wr) := HQ1.out.trans (HBr.out.mono HQ1.out.size)
      have HX4 : Hid (Bl 25 wr b4 (tmC m4)) := HX4n.out.below HBr.out HX4n.out.lt
      have HX5 : Hid (Bl 25 wr b5 (tmC m5)) := HX5n.out.below HBr.out HX5n.out.lt
      have HX6 : Hid (Bl 25 wr b6 (tmC m6)) := HX6n.out.below HBr.out HX6n.out.lt
      have HAl : Hid ((M.map (fun i => (L.getD i (nd0 0)).text)).length = M.length) := List.length_map ..
      clear HO HBr HQ1 HX4n HX5n HX6n hTe hTr e7 HO7 HAT HLT
      generalize M.map (fun i => (L.getD i (nd0 0)).text) = AU at *
      go_upto_region 29 with fail
      go_cut [181] from 156 to 181 (fun s wx => s = .bool (!(o1 && o2 && o3 && o4 && o5 && o6 && o7)) ∧ wx = wr)
      case first =>
        cases o1
        · go_wp2
          go_meet
          exact ⟨by simp, rfl⟩
        · skip
          cases o2
          · go_wp2
            go_meet
            exact ⟨by simp, rfl⟩
          · skip
            cases o3
            · go_wp2
              go_meet
              exact ⟨by simp, rfl⟩
            · skip
              cases o4
              · go_wp2
                go_meet
                exact ⟨by simp, rfl⟩
              · skip
                cases o5
                · go_wp2
                  go_meet
                  exact ⟨by simp, rfl⟩
                · skip
                  cases o6
                  · go_wp2
                    go_meet
                    exact ⟨by simp, rfl⟩
                  · skip
                    cases o7
                    · go_wp2
                      go_meet
                      exact ⟨by simp, rfl⟩
                    · skip
                      go_wp2
                      go_meet
                      exact ⟨rfl, rfl⟩
      case rest =>
      obtain ⟨rfl, rfl⟩ := hcut
      rcases HOK.out with ⟨ho, hc, rfl⟩ | ⟨ho, hc, rfl⟩
      · rw [show (!(o1 && o2 && o3 && o4 && o5 && o6 && o7)) = false from by rw [ho]; rfl]
        simp only [Cm.mk.injEq] at hc
        obtain ⟨c0, c1, c2, c3, c4, c5, c6, c7, c8, c9, cA, cB⟩ := hc
        replace c0 := c0.symm
        subst c0
        replace c1 := c1.symm
        subst c1
        replace c2 := c2.symm
        subst c2
        replace c3 := c3.symm
        subst c3
        replace c4 := c4.symm
        subst c4
        replace c5 := c5.symm
        subst c5
        replace c6 := c6.symm
        subst c6
        replace c7 := c7.symm
        subst c7
        replace c8 := c8.symm
        subst c8
        replace c9 := c9.symm
        subst c9
        replace cA := cA.symm
        subst cA
        replace cB := cB.symm
        subst cB
        clear HOK ho Hb
        have HYx : Hid (Below w3.heap.size w3 wc) := HY5.out.trans (HQ.out.mono HY5.out.size)
        have kr := HRC.out wc HYx.out
        have k0 : wc.cell? ⟨bC, 0, none⟩ = some (.slice vA L.length vC) := by have := kr 0 _ rfl; rwa [Nat.zero_add] at this
        have k1 : wc.cell? ⟨bC, 1, none⟩ = some (.string ⟨i1.toArray⟩) := by have := kr 1 _ rfl; rwa [Nat.zero_add] at this
        have k2 : wc.cell? ⟨bC, 2, none⟩ = some (.bool h1) := by have := kr 2 _ rfl; rwa [Nat.zero_add] at this
        have k3 : wc.cell? ⟨bC, 3, none⟩ = some (.string ⟨i2.toArray⟩) := by have := kr 3 _ rfl; rwa [Nat.zero_add] at this
        have k4 : wc.cell? ⟨bC, 4, none⟩ = some (.bool h2) := by have := kr 4 _ rfl; rwa [Nat.zero_add] at this
        have k5 : wc.cell? ⟨bC, 5, none⟩ = some (.slice aA (AU).length aC) := by have := kr 5 _ rfl; rwa [Nat.zero_add] at this
        have k6 : wc.cell? ⟨bC, 6, none⟩ = some (.bool true) := by have := kr 6 _ rfl; rwa [Nat.zero_add] at this
        have k7 : wc.cell? ⟨bC, 7, none⟩ = some (.string ⟨i3.toArray⟩) := by have := kr 7 _ rfl; rwa [Nat.zero_add] at this
        have k8 : wc.cell? ⟨bC, 8, none⟩ = some (.bool h3) := by have := kr 8 _ rfl; rwa [Nat.zero_add] at this
        have k9 : wc.cell? ⟨bC, 9, none⟩ = some (.bool m4.has) := by have := kr 9 _ rfl; rwa [Nat.zero_add] at this
        have k10 : wc.cell? ⟨bC, 10, none⟩ = some (.int .i64 m4.at_) := by have := kr 10 _ rfl; rwa [Nat.zero_add] at this
        have k11 : wc.cell? ⟨bC, 11, none⟩ = some (.bool m5.has) := by have := kr 11 _ rfl; rwa [Nat.zero_add] at this
        have k12 : wc.cell? ⟨bC, 12, none⟩ = some (.int .i64 m5.at_) := by have := kr 12 _ rfl; rwa [Nat.zero_add] at this
        have k13 : wc.cell? ⟨bC, 13, none⟩ = some (.bool m6.has) := by have := kr 13 _ rfl; rwa [Nat.zero_add] at this
        have k14 : wc.cell? ⟨bC, 14, none⟩ = some (.int .i64 m6.at_) := by have := kr 14 _ rfl; rwa [Nat.zero_add] at this
        have t4a : wc.cell? ⟨b4, 0, none⟩ = some (.bool m4.has) := HX4.out.cell 0 (by simp [tmC])
        have t4b : wc.cell? ⟨b4, 1, none⟩ = some (.int .i64 m4.at_) := HX4.out.cell 1 (by simp [tmC])
        have t5a : wc.cell? ⟨b5, 0, none⟩ = some (.bool m5.has) := HX5.out.cell 0 (by simp [tmC])
        have t5b : wc.cell? ⟨b5, 1, none⟩ = some (.int .i64 m5.at_) := HX5.out.cell 1 (by simp [tmC])
        have t6a : wc.cell? ⟨b6, 0, none⟩ = some (.bool m6.has) := HX6.out.cell 0 (by simp [tmC])
        have t6b : wc.cell? ⟨b6, 1, none⟩ = some (.int .i64 m6.at_) := HX6.out.cell 1 (by simp [tmC])
        have CN := snodes_any _ _ L L vA (some ⟨g, off, none⟩) vC cap wc (HcN.out wc HYx.out) (HNq.out wc HQ.out) (by omega)
        rw [decide_eq_true rfl] at CN
        have HCT : Hid (∀ q, Calls Tryz.prog 22 #[.slice aA (AU).length aC, .slice va M.length vc] (wc.drewN q) fun e w' => e = .returned (.bool true) ∧ ∃ q', w' = (wc.drewN q).drewN q') := fun q => by
          have := stexts_any (AU) (AU) aA va aC vc (wc.drewN q) ((HcT.out wc HYx.out).drewN q) (by rw [HAl.out]; exact HA.out.drewN q) (Nat.le_trans hcb.2 (by decide))
          rw [decide_eq_true rfl, show Value.slice va AU.length vc = Value.slice va M.length vc from by rw [HAl.out]] at this
          exact this
        have qh1 : (h1 != h1) = false := by simp
        have qh2 : (h2 != h2) = false := by simp
        have qh3 : (h3 != h3) = false := by simp
        have qi1 : (i1 == i1) = true := by simp
        have qi2 : (i2 == i2) = true := by simp
        have qi3 : (i3 == i3) = true := by simp
        have hrt := run_tm
        have qm4 : ((m4.has == m4.has) && (m4.at_ == m4.at_)) = true := by simp
        have qm5 : ((m5.has == m5.has) && (m5.at_ == m5.at_)) = true := by simp
        have qm6 : ((m6.has == m6.has) && (m6.at_ == m6.at_)) = true := by simp
        have HBw : Hid (Below w.heap.size w wc) := HB5.out.trans (HQ.out.mono HB5.out.size)
        clear kr HA HX4 HX5 HX6
        go_wp2_with fail
        refine CN.mono ?_
        clear CN
        rintro e y9 ⟨rfl, q, rfl⟩
        replace k0 : (wc.drewN q).cell? ⟨bC, 0, none⟩ = some (.slice vA L.length vC) := k0
        replace k1 : (wc.drewN q).cell? ⟨bC, 1, none⟩ = some (.string ⟨i1.toArray⟩) := k1
        replace k2 : (wc.drewN q).cell? ⟨bC, 2, none⟩ = some (.bool h1) := k2
        replace k3 : (wc.drewN q).cell? ⟨bC, 3, none⟩ = some (.string ⟨i2.toArray⟩) := k3
        replace k4 : (wc.drewN q).cell? ⟨bC, 4, none⟩ = some (.bool h2) := k4
        replace k5 : (wc.drewN q).cell? ⟨bC, 5, none⟩ = some (.slice aA (AU).length aC) := k5
        replace k6 : (wc.drewN q).cell? ⟨bC, 6, none⟩ = some (.bool true) := k6
        replace k7 : (wc.drewN q).cell? ⟨bC, 7, none⟩ = some (.string ⟨i3.toArray⟩) := k7
        replace k8 : (wc.drewN q).cell? ⟨bC, 8, none⟩ = some (.bool h3) := k8
        replace k9 : (wc.drewN q).cell? ⟨bC, 9, none⟩ = some (.bool m4.has) := k9
        replace k10 : (wc.drewN q).cell? ⟨bC, 10, none⟩ = some (.int .i64 m4.at_) := k10
        replace k11 : (wc.drewN q).cell? ⟨bC, 11, none⟩ = some (.bool m5.has) := k11
        replace k12 : (wc.drewN q).cell? ⟨bC, 12, none⟩ = some (.int .i64 m5.at_) := k12
        replace k13 : (wc.drewN q).cell? ⟨bC, 13, none⟩ = some (.bool m6.has) := k13
        replace k14 : (wc.drewN q).cell? ⟨bC, 14, none⟩ = some (.int .i64 m6.at_) := k14
        replace t4a : (wc.drewN q).cell? ⟨b4, 0, none⟩ = some (.bool m4.has) := t4a
        replace t4b : (wc.drewN q).cell? ⟨b4, 1, none⟩ = some (.int .i64 m4.at_) := t4b
        replace t5a : (wc.drewN q).cell? ⟨b5, 0, none⟩ = some (.bool m5.has) := t5a
        replace t5b : (wc.drewN q).cell? ⟨b5, 1, none⟩ = some (.int .i64 m5.at_) := t5b
        replace t6a : (wc.drewN q).cell? ⟨b6, 0, none⟩ = some (.bool m6.has) := t6a
        replace t6b : (wc.drewN q).cell? ⟨b6, 1, none⟩ = some (.int .i64 m6.at_) := t6b
        have CT := HCT.out q
        clear HCT
        go_wp2_with fail
        refine CT.mono ?_
        clear CT
        rintro e y9 ⟨rfl, q', rfl⟩
        go_wp2
        go_ret
        exact ⟨rfl, below_drewN HBw.out _⟩
      · obtain rfl := Hb.out hc
        rw [show (!(o1 && o2 && o3 && o4 && o5 && o6 && o7)) = true from by rw [ho]; rfl]
        clear HOK ho hc Hb
        go_wp2
        go_ret
        exact ⟨rfl, HB5.out.trans (HQ.out.mono HB5.out.size)⟩

end Go.Proofs.YthlfboaidhgnlaaGreatDoor

namespace Go.Proofs.YthlfboaidhgnlaaGreatDoor
open Go.RowKit

/-- ClaimsSaid, of every text. -/
theorem said_all (t : List UInt8) (w : World) (hG : GL w.heap.size w) :
    Calls Tryz.prog 5 #[.string ⟨t.toArray⟩] w fun e w' => e = .returned (.bool true) ∧ Below w.heap.size w w' := by
  by_cases hf : (parseF t).2.1 = 0
  · by_cases h7 : ((parseF t).1.getD 0 (nd0 0)).kind = 7
    · rcases mem_in (parseF t).1 kAud with hk | ⟨k, _, hk, _⟩
      · exact said_none t w hG hf h7 hk
      · by_cases h5 : ((parseF t).1.getD k (nd0 0)).kind = 5
        · exact said_text t w hG hf h7 k hk h5
        · exact said_list t w hG hf h7 k hk h5
    · exact said_early t w hG (.inr h7)
  · exact said_early t w hG (.inl hf)

end Go.Proofs.YthlfboaidhgnlaaGreatDoor
