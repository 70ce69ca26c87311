import Derived.Test.YtmngdaolgdhgmaaGreatDoorCOv
namespace Go.Proofs.YtmngdaolgdhgmaaGreatDoor
open Go.RowKit

set_option maxRecDepth 100000

theorem Bl.grown {e : TypeId} {w w' : World} {g : Nat} {cs : List Value} {r : Option Nat} (h : Bl e w g cs) (hg : w.grownBy w' r) (hne : r ≠ some g) : Bl e w' g cs := by
  have hl := h.lt
  unfold Bl at h ⊢
  rw [hg.block g hl (fun e => hne e.symm)]
  exact h
/-- A copy on its way: its boxes, the rows that it has made. -/
structure Cq (w wr : World) (A : List Value) (inf : Bool) (c1 c2 v1 v2 : Value) (xs ys : List Nat) : Prop where
  ba : Bl 26 wr w.heap.size A
  bz : Bl 26 wr (w.heap.size + 1) [.slice none 0 0, .slice none 0 0, .bool false]
  bc : Bl 26 wr (w.heap.size + 2) [c1, c2, .bool inf]
  o1 : wr.ownsRow 0 51 1 v1 xs.length (xs.map U)
  o2 : wr.ownsRow 0 51 1 v2 ys.length (ys.map U)
  f1 : ∀ g, v1.ownBlock = some g → w.heap.size + 3 ≤ g
  f2 : ∀ g, v2.ownBlock = some g → w.heap.size + 3 ≤ g
  ap : ∀ g, v1.ownBlock = some g → v2.ownBlock ≠ some g
  bel : Below w.heap.size w wr
theorem Cq.drewN {w wr : World} {A : List Value} {inf : Bool} {c1 c2 v1 v2 : Value} {xs ys : List Nat} (h : Cq w wr A inf c1 c2 v1 v2 xs ys) (q : Nat) : Cq w (wr.drewN q) A inf c1 c2 v1 v2 xs ys := ⟨h.ba, h.bz, h.bc, h.o1, h.o2, h.f1, h.f2, h.ap, below_drewN h.bel q⟩
theorem Cq.alloc {w wr : World} {A : List Value} {inf : Bool} {c1 c2 v1 v2 : Value} {xs ys : List Nat} (h : Cq w wr A inf c1 c2 v1 v2 xs ys) (o : Obj) : Cq w (wr.alloc o) A inf c1 c2 v1 v2 xs ys := by
  have b := alloc_below wr o
  exact ⟨h.ba.below b h.ba.lt, h.bz.below b h.bz.lt, h.bc.below b h.bc.lt, h.o1.alloc _, h.o2.alloc _, h.f1, h.f2, h.ap, h.bel.trans (b.mono h.bel.size)⟩
theorem Cq.app0 {w wr : World} {A : List Value} {inf : Bool} {c1 c2 v1 v2 : Value} {xs ys : List Nat} (h : Cq w wr A inf c1 c2 v1 v2 xs ys) (z : Nat) (hn : xs.length ≤ 10000000) : ∃ v' w', (Builtin.append_ #[24, 24] 24 #[v1, .slice (some ⟨wr.heap.size, 0, none⟩) 1 1]).run Tryz.prog (wr.alloc (.cells #[.int .u32 (z : Int)] 51)) = .ok v' w' ∧ Cq w w' A inf c1 c2 v' v2 (xs ++ [z]) ys := by
  obtain ⟨i, hi1, hz, hsize, hby⟩ := info_parts infoU
  have hcell : (wr.alloc (.cells #[.int .u32 (z : Int)] 51)).cell? ⟨wr.heap.size, 0, none⟩ = some (U z) := (alloc_bl wr (([z] : List Nat).map U) 51).cell 0 (by simp)
  have hA := h.alloc (.cells #[.int .u32 (z : Int)] 51)
  obtain ⟨v', w', hrun, hown, hgr, hblk, _⟩ := append_keep (wr.alloc (.cells #[.int .u32 (z : Int)] 51)) 24 51 24 i (.int .u32 0) 4 Tryz.underlying24 hi1 hz hsize hby rfl v1 _ _ hA.o1 ⟨wr.heap.size, 0, none⟩ (U z) hcell rfl (by omega) (by unfold maxLen; omega)
  have hsz := h.bc.lt
  have hsA : (wr.alloc (.cells #[.int .u32 (z : Int)] 51)).heap.size = wr.heap.size + 1 := World.size_alloc _ _
  have hne : ∀ g, g < w.heap.size + 3 → v1.ownBlock ≠ some g := fun g hg e => by have := h.f1 g e; omega
  have hfr : ∀ g, v'.ownBlock = some g → w.heap.size + 3 ≤ g := fun g e => by
    rcases hblk with e2 | ⟨g2, e2, hg2⟩
    · rw [e2] at e; exact h.f1 g e
    · rw [e2] at e; injection e with e; subst e; omega
  have hap : ∀ g, v'.ownBlock = some g → v2.ownBlock ≠ some g := fun g e e3 => by
    rcases hblk with e2 | ⟨g2, e2, hg2⟩
    · rw [e2] at e; exact h.ap g e e3
    · rw [e2] at e; injection e with e; subst e; have := (World.ownsRow.lt h.o2 g2 e3).2; omega
  have hk : v2.ownBlock = none ∨ v2.ownBlock ≠ v1.ownBlock := by
    cases hb : v2.ownBlock with
    | none => exact .inl rfl
    | some g => exact .inr (fun e => h.ap g e.symm hb)
  refine ⟨v', w', hrun, hA.ba.grown hgr (hne _ (by omega)), hA.bz.grown hgr (hne _ (by omega)), hA.bc.grown hgr (hne _ (by omega)), (by rw [List.length_append, List.map_append]; exact hown), hA.o2.kept hgr hk, hfr, h.f2, hap, hA.bel.grown hgr (Nat.le_trans h.bel.size (by omega)) (fun g e => by have := h.f1 g e; omega)⟩
theorem Cq.set0 {w wr : World} {A : List Value} {inf : Bool} {c1 c2 v1 v2 : Value} {xs ys : List Nat} (h : Cq w wr A inf c1 c2 v1 v2 xs ys) : Cq w (wr.setCell ⟨w.heap.size + 2, 0, none⟩ v1) A inf v1 c2 v1 v2 xs ys := by
  have hb := (But.refl wr (w.heap.size + 2)).set 0 v1
  exact ⟨h.ba.but hb (by omega), h.bz.but hb (by omega), h.bc.set 0 v1, own_but h.o1 hb (fun e => by have := h.f1 _ e; omega), own_but h.o2 hb (fun e => by have := h.f2 _ e; omega), h.f1, h.f2, h.ap, h.bel.trans (hb.below h.bel.size (by omega))⟩
theorem Cq.app1 {w wr : World} {A : List Value} {inf : Bool} {c1 c2 v1 v2 : Value} {xs ys : List Nat} (h : Cq w wr A inf c1 c2 v1 v2 xs ys) (z : Nat) (hn : ys.length ≤ 10000000) : ∃ v' w', (Builtin.append_ #[24, 24] 24 #[v2, .slice (some ⟨wr.heap.size, 0, none⟩) 1 1]).run Tryz.prog (wr.alloc (.cells #[.int .u32 (z : Int)] 51)) = .ok v' w' ∧ Cq w w' A inf c1 c2 v1 v' xs (ys ++ [z]) := by
  obtain ⟨i, hi1, hz, hsize, hby⟩ := info_parts infoU
  have hcell : (wr.alloc (.cells #[.int .u32 (z : Int)] 51)).cell? ⟨wr.heap.size, 0, none⟩ = some (U z) := (alloc_bl wr (([z] : List Nat).map U) 51).cell 0 (by simp)
  have hA := h.alloc (.cells #[.int .u32 (z : Int)] 51)
  obtain ⟨v', w', hrun, hown, hgr, hblk, _⟩ := append_keep (wr.alloc (.cells #[.int .u32 (z : Int)] 51)) 24 51 24 i (.int .u32 0) 4 Tryz.underlying24 hi1 hz hsize hby rfl v2 _ _ hA.o2 ⟨wr.heap.size, 0, none⟩ (U z) hcell rfl (by omega) (by unfold maxLen; omega)
  have hsz := h.bc.lt
  have hsA : (wr.alloc (.cells #[.int .u32 (z : Int)] 51)).heap.size = wr.heap.size + 1 := World.size_alloc _ _
  have hne : ∀ g, g < w.heap.size + 3 → v2.ownBlock ≠ some g := fun g hg e => by have := h.f2 g e; omega
  have hfr : ∀ g, v'.ownBlock = some g → w.heap.size + 3 ≤ g := fun g e => by
    rcases hblk with e2 | ⟨g2, e2, hg2⟩
    · rw [e2] at e; exact h.f2 g e
    · rw [e2] at e; injection e with e; subst e; omega
  have hap : ∀ g, v'.ownBlock = some g → v1.ownBlock ≠ some g := fun g e e3 => by
    rcases hblk with e2 | ⟨g2, e2, hg2⟩
    · rw [e2] at e; exact h.ap g e3 e
    · rw [e2] at e; injection e with e; subst e; have := (World.ownsRow.lt h.o1 g2 e3).2; omega
  have hk : v1.ownBlock = none ∨ v1.ownBlock ≠ v2.ownBlock := by
    cases hb : v1.ownBlock with
    | none => exact .inl rfl
    | some g => exact .inr (fun e => h.ap g hb e.symm)
  refine ⟨v', w', hrun, hA.ba.grown hgr (hne _ (by omega)), hA.bz.grown hgr (hne _ (by omega)), hA.bc.grown hgr (hne _ (by omega)), hA.o1.kept hgr hk, (by rw [List.length_append, List.map_append]; exact hown), h.f1, hfr, (fun g e e2 => hap g e2 e), hA.bel.grown hgr (Nat.le_trans h.bel.size (by omega)) (fun g e => by have := h.f2 g e; omega)⟩
theorem Cq.set1 {w wr : World} {A : List Value} {inf : Bool} {c1 c2 v1 v2 : Value} {xs ys : List Nat} (h : Cq w wr A inf c1 c2 v1 v2 xs ys) : Cq w (wr.setCell ⟨w.heap.size + 2, 1, none⟩ v2) A inf c1 v2 v1 v2 xs ys := by
  have hb := (But.refl wr (w.heap.size + 2)).set 1 v2
  exact ⟨h.ba.but hb (by omega), h.bz.but hb (by omega), h.bc.set 1 v2, own_but h.o1 hb (fun e => by have := h.f1 _ e; omega), own_but h.o2 hb (fun e => by have := h.f2 _ e; omega), h.f1, h.f2, h.ap, h.bel.trans (hb.below h.bel.size (by omega))⟩
set_option maxHeartbeats 8000000 in
theorem copied_v (x y : Value) (xs ys : List Nat) (inf : Bool) (w : World) (hx : Nm w x xs) (hy : Nm w y ys) (l1 : xs.length ≤ 3000000) (l2 : ys.length ≤ 3000000) :
    Calls Tryz.prog 27 #[.agg #[x, y, .bool inf]] w fun e w' => ∃ a b, e = .returned (.agg #[a, b, .bool inf]) ∧ Nm w' a xs ∧ Nm w' b ys ∧ Below w.heap.size w w' := by
  obtain ⟨x0, x2, rfl, _, rx, sx⟩ := hx
  obtain ⟨y0, y2, rfl, _, ry, sy⟩ := hy
  have HR : Hid (Rn w x0 xs ∧ Rn w y0 ys ∧ Sm Bs xs ∧ Sm Bs ys) := ⟨rx, ry, sx, sy⟩
  clear rx ry sx sy
  obtain ⟨n1, Hn1⟩ : ∃ n, Hid (xs.length = n) := ⟨_, rfl⟩
  obtain ⟨n2, Hn2⟩ : ∃ n, Hid (ys.length = n) := ⟨_, rfl⟩
  rw [Hn1.out] at l1
  rw [Hn2.out] at l2
  rw [Hn1.out, Hn2.out]
  have hfm : Fm w (((w.alloc (.cells #[.slice x0 n1 x2, .slice y0 n2 y2, .bool inf] 26)).alloc (.cells #[.slice none 0 0, .slice none 0 0, .bool false] 26)).alloc (.cells #[.slice none 0 0, .slice none 0 0, .bool inf] 26)) [(26, [.slice x0 n1 x2, .slice y0 n2 y2, .bool inf]), (26, [.slice none 0 0, .slice none 0 0, .bool false]), (26, [.slice none 0 0, .slice none 0 0, .bool inf])] [] [] := (((Fm.nil (w := w) (A := []) ar_nil).push (by simp) 26 [.slice x0 n1 x2, .slice y0 n2 y2, .bool inf]).push (by simp) 26 [.slice none 0 0, .slice none 0 0, .bool false]).push (by simp) 26 [.slice none 0 0, .slice none 0 0, .bool inf]
  have HQ0 : Hid (Cq w (((w.alloc (.cells #[.slice x0 n1 x2, .slice y0 n2 y2, .bool inf] 26)).alloc (.cells #[.slice none 0 0, .slice none 0 0, .bool false] 26)).alloc (.cells #[.slice none 0 0, .slice none 0 0, .bool inf] 26)) [.slice x0 n1 x2, .slice y0 n2 y2, .bool inf] inf (.slice none 0 0) (.slice none 0 0) (.slice none 0 0) (.slice none 0 0) (xs.take 0) []) := ⟨hfm.bx 0 (by simp), hfm.bx 1 (by simp), hfm.bx 2 (by simp), World.ownsRow_nil _ _ _ _, World.ownsRow_nil _ _ _ _, (fun g e => by cases e), (fun g e => by cases e), (fun g e => by cases e), hfm.bel⟩
  have kw : ((w.alloc (.cells #[.slice x0 n1 x2, .slice y0 n2 y2, .bool inf] 26)).alloc (.cells #[.slice none 0 0, .slice none 0 0, .bool false] 26)).cell? ⟨w.heap.size, 2, none⟩ = some (.bool inf) := (((Fm.nil (w := w) (A := []) ar_nil).push (by simp) 26 [.slice x0 n1 x2, .slice y0 n2 y2, .bool inf]).push (by simp) 26 [.slice none 0 0, .slice none 0 0, .bool false]).cell 0 2 (by simp) (by simp)
  clear hfm
  go_enter Tryz.func27, Tryz.ntmps27
  go_wp2_with fail
  clear kw
  go_loopw [4] (fun s wr => ∃ (i : Nat) (v1 v2 : Value), s = .int .i64 (i : Int) ∧ i ≤ n1 ∧ Hid (Cq w wr [.slice x0 n1 x2, .slice y0 n2 y2, .bool inf] inf v1 v2 v1 v2 (xs.take i) [])) (fun s _ => n1 - (intOf s).toNat)
  case atStart => exact ⟨0, _, _, rfl, Nat.zero_le _, HQ0⟩
  case round =>
    clear HQ0
    obtain ⟨i, v1, v2, rfl, hi, HQ⟩ := hrel
    have ka : wr.cell? ⟨w.heap.size, 0, none⟩ = some (.slice x0 n1 x2) := HQ.out.ba.cell 0 (by simp)
    by_cases hlt : i < n1
    · obtain ⟨gu, ou, eu, _, hcu⟩ := (HR.out.1.below HQ.out.bel (Nat.le_refl _)).cell (by have := Hn1.out; omega)
      subst eu
      have gc := hcu i (by have := Hn1.out; omega)
      obtain ⟨z, Hz⟩ : ∃ z, Hid (xs.getD i 0 = z) := ⟨_, rfl⟩
      rw [Hz.out] at gc
      clear hcu
      have HQd : Hid (Cq w wr.drew [.slice (some ⟨gu, ou, none⟩) n1 x2, .slice y0 n2 y2, .bool inf] inf v1 v2 v1 v2 (xs.take i) []) := HQ.out.drewN 1
      obtain ⟨v', w', hrun, hq'⟩ := HQd.out.app0 z (by rw [List.length_take]; omega)
      have HM : Hid (Cq w w' [.slice (some ⟨gu, ou, none⟩) n1 x2, .slice y0 n2 y2, .bool inf] inf v1 v2 v' v2 (xs.take i ++ [z]) []) := hq'
      obtain ⟨va, vn, vc, ev⟩ : ∃ a n c, v' = .slice a n c := by
        rcases HM.out.o1.2 with ⟨e, _⟩ | ⟨g, cap, cur, e, _⟩
        · exact ⟨_, _, _, e⟩
        · exact ⟨_, _, _, e⟩
      subst ev
      obtain ⟨wa, wn, wc, ew⟩ : ∃ a n c, v1 = .slice a n c := by
        rcases HQd.out.o1.2 with ⟨e, _⟩ | ⟨g, cap, cur, e, _⟩
        · exact ⟨_, _, _, e⟩
        · exact ⟨_, _, _, e⟩
      subst ew
      clear hq'
      have HN : Hid (Cq w (w'.setCell ⟨w.heap.size + 2, 0, none⟩ (.slice va vn vc)) [.slice (some ⟨gu, ou, none⟩) n1 x2, .slice y0 n2 y2, .bool inf] inf (.slice va vn vc) v2 (.slice va vn vc) v2 (xs.take (i + 1)) []) := (by have h := HM.out.set0; rw [show xs.take i ++ [z] = xs.take (i + 1) from (by rw [List.take_succ_eq_append_getElem (by have := Hn1.out; omega), ← getD_eq _ _ (by have := Hn1.out; omega), Hz.out])] at h; exact h : Cq w (w'.setCell ⟨w.heap.size + 2, 0, none⟩ (.slice va vn vc)) [.slice (some ⟨gu, ou, none⟩) n1 x2, .slice y0 n2 y2, .bool inf] inf (.slice va vn vc) v2 (.slice va vn vc) v2 (xs.take (i + 1)) [])
      have HZ : ∀ {w1 : World}, Below w.heap.size w w1 → w1.cell? ⟨gu, ou + i, none⟩ = some (.int .u32 (z : Int)) := fun {w1} hb => by
        obtain ⟨g', o', e', _, hc'⟩ := (HR.out.1.below hb (Nat.le_refl _)).cell (by have := Hn1.out; omega)
        cases e'
        have h := hc' i (by have := Hn1.out; omega)
        rw [Hz.out] at h
        exact h
      have hli : decide ((i : Int) < (n1 : Int)) = true := decide_eq_true (by omega)
      go_wp2_with fail
      refine wp_region_K 10 (fun (w' : World) => w'.cell? ⟨w.heap.size + 2, 0, none⟩ = some (.slice wa wn wc) ∧ w'.cell? ⟨w.heap.size, 0, none⟩ = some (.slice (some ⟨gu, ou, none⟩) n1 x2) ∧ w'.cell? ⟨gu, ou + i, none⟩ = some (.int .u32 (z : Int)) ∧ w'.frozen? ⟨w.heap.size + 2, 0, none⟩ = false) (by kernel_rfl) ?_
      have hHeld : ((fun (w' : World) => w'.cell? ⟨w.heap.size + 2, 0, none⟩ = some (.slice wa wn wc) ∧ w'.cell? ⟨w.heap.size, 0, none⟩ = some (.slice (some ⟨gu, ou, none⟩) n1 x2) ∧ w'.cell? ⟨gu, ou + i, none⟩ = some (.int .u32 (z : Int)) ∧ w'.frozen? ⟨w.heap.size + 2, 0, none⟩ = false)) (World.drew _) := ⟨HQd.out.bc.cell 0 (by simp), HQd.out.ba.cell 0 (by simp), HZ (HQd.out.bel), HQd.out.bc.frozen 0⟩
      refine wpAnyK_take0 0 (v := ?v1) rfl (by kernel_rfl) (fun _ _ _ h => h) (Or.inl ⟨by rfl, ?hy1⟩) (fun _ => hHeld) ?_
      case hy1 => (intro w hSw; go_simp; try with_reducible rfl)
      try simp only [Act.put, List.setIfInBounds_toArray, List.set_cons_zero, List.set_cons_succ]
      refine wpAnyK_take 1 [8, 10] (v := ?v2) rfl (by kernel_rfl) (fun _ _ _ h => h) (Or.inl ⟨by rfl, ?hy2⟩) hHeld ?_
      case hy2 => (intro w hSw; (try dsimp only at hSw); go_simp; try with_reducible rfl)
      try simp only [Act.put, List.setIfInBounds_toArray, List.set_cons_zero, List.set_cons_succ]
      refine wpAnyK_take0 2 (v := ?v3) rfl (by kernel_rfl) (fun _ _ _ h => h) (Or.inl ⟨by rfl, ?hy3⟩) (fun _ => hHeld) ?_
      case hy3 => (intro w hSw; go_simp; try with_reducible rfl)
      try simp only [Act.put, List.setIfInBounds_toArray, List.set_cons_zero, List.set_cons_succ]
      refine wpAnyK_take 3 [5, 6, 7, 8, 10] (v := ?v4) rfl (by kernel_rfl) (fun _ _ _ h => h) (Or.inl ⟨by rfl, ?hy4⟩) hHeld ?_
      case hy4 => (intro w hSw; (try dsimp only at hSw); go_simp; try with_reducible rfl)
      try simp only [Act.put, List.setIfInBounds_toArray, List.set_cons_zero, List.set_cons_succ]
      refine wpAnyK_take0 4 (v := ?v5) rfl (by kernel_rfl) (fun _ _ _ h => h) (Or.inl ⟨by rfl, ?hy5⟩) (fun _ => hHeld) ?_
      case hy5 => (intro w hSw; go_simp; try with_reducible rfl)
      try simp only [Act.put, List.setIfInBounds_toArray, List.set_cons_zero, List.set_cons_succ]
      refine wpAnyK_take0 5 (v := ?v6) rfl (by kernel_rfl) (fun _ _ _ h => h) (Or.inl ⟨by rfl, ?hy6⟩) (fun _ => hHeld) ?_
      case hy6 => (intro w hSw; go_simp; try with_reducible rfl)
      try simp only [Act.put, List.setIfInBounds_toArray, List.set_cons_zero, List.set_cons_succ]
      refine wpAnyK_take 6 [7, 8, 10] (v := ?v7) rfl (by kernel_rfl) (fun _ _ _ h => h) (Or.inl ⟨by rfl, ?hy7⟩) hHeld ?_
      case hy7 => (intro w hSw; (try dsimp only at hSw); go_simp; try with_reducible rfl)
      try simp only [Act.put, List.setIfInBounds_toArray, List.set_cons_zero, List.set_cons_succ]
      refine wpAnyK_step 7 rfl (by kernel_rfl) (fun K hK => ?_)
      go_simp
      try dsimp only
      refine (fun hHeld => hK.out _ _ (fun _ => hHeld) ?_) ⟨(HQd.out.alloc (.cells #[.int .u32 (z : Int)] 51)).bc.cell 0 (by simp), (HQd.out.alloc (.cells #[.int .u32 (z : Int)] 51)).ba.cell 0 (by simp), HZ ((HQd.out.alloc (.cells #[.int .u32 (z : Int)] 51)).bel), (HQd.out.alloc (.cells #[.int .u32 (z : Int)] 51)).bc.frozen 0⟩
      clear hK K
      try simp only [Act.put, List.setIfInBounds_toArray, List.set_cons_zero, List.set_cons_succ]
      refine wpAnyK_step 8 rfl (by kernel_rfl) (fun K hK => ?_)
      rw [if_pos (by kernel_rfl)]
      refine Lib.wp_append_run _ (.tmp 17) (.tmp 23) 24 24 rfl _ _ rfl rfl _ _ hrun ?_
      refine (fun hHeld => hK.out _ _ (fun _ => hHeld) ?_) ⟨HM.out.bc.cell 0 (by simp), HM.out.ba.cell 0 (by simp), HZ (HM.out.bel), HM.out.bc.frozen 0⟩
      clear hK K
      try simp only [Act.put, List.setIfInBounds_toArray, List.set_cons_zero, List.set_cons_succ]
      refine wpAnyK_take0 9 (v := ?v10) rfl (by kernel_rfl) (fun _ _ _ h => h) (Or.inl ⟨by rfl, ?hy10⟩) (fun _ => hHeld) ?_
      case hy10 => (intro w hSw; go_simp; try with_reducible rfl)
      try simp only [Act.put, List.setIfInBounds_toArray, List.set_cons_zero, List.set_cons_succ]
      refine wpAnyK_step 10 rfl (by kernel_rfl) (fun K hK => ?_)
      go_simp
      refine hK.out _ _ ?hk11 ?_
      case hk11 => exact (fun h => nomatch (h.symm.trans (show _ = true by kernel_rfl)))
      clear hK K
      try simp only [Act.put, List.setIfInBounds_toArray, List.set_cons_zero, List.set_cons_succ]
      refine wpAnyK_done (by kernel_rfl) ?_ _
      go_wp2
      go_roundw
      case rel => exact ⟨i + 1, _, _, by go_num, by omega, HN⟩
      case measure => simp [intOf]; omega
    · obtain rfl : n1 = i := by omega
      have HG0 : Hid (Cq w wr [.slice x0 n1 x2, .slice y0 n2 y2, .bool inf] inf v1 v2 v1 v2 xs (ys.take 0)) := (by have h := HQ.out; rw [List.take_of_length_le (by rw [Hn1.out]; exact Nat.le_refl _)] at h; exact h : Cq w wr [.slice x0 n1 x2, .slice y0 n2 y2, .bool inf] inf v1 v2 v1 v2 xs (ys.take 0))
      clear HQ hlt hi
      go_wp2
      clear ka
      go_loopw [5] (fun s wr => ∃ (i : Nat) (v1 v2 : Value), s = .int .i64 (i : Int) ∧ i ≤ n2 ∧ Hid (Cq w wr [.slice x0 n1 x2, .slice y0 n2 y2, .bool inf] inf v1 v2 v1 v2 xs (ys.take i))) (fun s _ => n2 - (intOf s).toNat)
      case atStart => exact ⟨0, _, _, rfl, Nat.zero_le _, HG0⟩
      case round =>
        clear HG0
        obtain ⟨i, v1, v2, rfl, hi, HQ⟩ := hrel
        have ka : wr.cell? ⟨w.heap.size, 1, none⟩ = some (.slice y0 n2 y2) := HQ.out.ba.cell 1 (by simp)
        by_cases hlt : i < n2
        · obtain ⟨gu, ou, eu, _, hcu⟩ := (HR.out.2.1.below HQ.out.bel (Nat.le_refl _)).cell (by have := Hn2.out; omega)
          subst eu
          have gc := hcu i (by have := Hn2.out; omega)
          obtain ⟨z, Hz⟩ : ∃ z, Hid (ys.getD i 0 = z) := ⟨_, rfl⟩
          rw [Hz.out] at gc
          clear hcu
          have HQd : Hid (Cq w wr.drew [.slice x0 n1 x2, .slice (some ⟨gu, ou, none⟩) n2 y2, .bool inf] inf v1 v2 v1 v2 xs (ys.take i)) := HQ.out.drewN 1
          obtain ⟨v', w', hrun, hq'⟩ := HQd.out.app1 z (by rw [List.length_take]; omega)
          have HM : Hid (Cq w w' [.slice x0 n1 x2, .slice (some ⟨gu, ou, none⟩) n2 y2, .bool inf] inf v1 v2 v1 v' xs (ys.take i ++ [z])) := hq'
          obtain ⟨va, vn, vc, ev⟩ : ∃ a n c, v' = .slice a n c := by
            rcases HM.out.o2.2 with ⟨e, _⟩ | ⟨g, cap, cur, e, _⟩
            · exact ⟨_, _, _, e⟩
            · exact ⟨_, _, _, e⟩
          subst ev
          obtain ⟨wa, wn, wc, ew⟩ : ∃ a n c, v2 = .slice a n c := by
            rcases HQd.out.o2.2 with ⟨e, _⟩ | ⟨g, cap, cur, e, _⟩
            · exact ⟨_, _, _, e⟩
            · exact ⟨_, _, _, e⟩
          subst ew
          clear hq'
          have HN : Hid (Cq w (w'.setCell ⟨w.heap.size + 2, 1, none⟩ (.slice va vn vc)) [.slice x0 n1 x2, .slice (some ⟨gu, ou, none⟩) n2 y2, .bool inf] inf v1 (.slice va vn vc) v1 (.slice va vn vc) xs (ys.take (i + 1))) := (by have h := HM.out.set1; rw [show ys.take i ++ [z] = ys.take (i + 1) from (by rw [List.take_succ_eq_append_getElem (by have := Hn2.out; omega), ← getD_eq _ _ (by have := Hn2.out; omega), Hz.out])] at h; exact h : Cq w (w'.setCell ⟨w.heap.size + 2, 1, none⟩ (.slice va vn vc)) [.slice x0 n1 x2, .slice (some ⟨gu, ou, none⟩) n2 y2, .bool inf] inf v1 (.slice va vn vc) v1 (.slice va vn vc) xs (ys.take (i + 1)))
          have HZ : ∀ {w1 : World}, Below w.heap.size w w1 → w1.cell? ⟨gu, ou + i, none⟩ = some (.int .u32 (z : Int)) := fun {w1} hb => by
            obtain ⟨g', o', e', _, hc'⟩ := (HR.out.2.1.below hb (Nat.le_refl _)).cell (by have := Hn2.out; omega)
            cases e'
            have h := hc' i (by have := Hn2.out; omega)
            rw [Hz.out] at h
            exact h
          have hli : decide ((i : Int) < (n2 : Int)) = true := decide_eq_true (by omega)
          go_wp2_with fail
          refine wp_region_K 10 (fun (w' : World) => w'.cell? ⟨w.heap.size + 2, 1, none⟩ = some (.slice wa wn wc) ∧ w'.cell? ⟨w.heap.size, 1, none⟩ = some (.slice (some ⟨gu, ou, none⟩) n2 y2) ∧ w'.cell? ⟨gu, ou + i, none⟩ = some (.int .u32 (z : Int)) ∧ w'.frozen? ⟨w.heap.size + 2, 1, none⟩ = false) (by kernel_rfl) ?_
          have hHeld : ((fun (w' : World) => w'.cell? ⟨w.heap.size + 2, 1, none⟩ = some (.slice wa wn wc) ∧ w'.cell? ⟨w.heap.size, 1, none⟩ = some (.slice (some ⟨gu, ou, none⟩) n2 y2) ∧ w'.cell? ⟨gu, ou + i, none⟩ = some (.int .u32 (z : Int)) ∧ w'.frozen? ⟨w.heap.size + 2, 1, none⟩ = false)) (World.drew _) := ⟨HQd.out.bc.cell 1 (by simp), HQd.out.ba.cell 1 (by simp), HZ (HQd.out.bel), HQd.out.bc.frozen 1⟩
          refine wpAnyK_take0 0 (v := ?v12) rfl (by kernel_rfl) (fun _ _ _ h => h) (Or.inl ⟨by rfl, ?hy12⟩) (fun _ => hHeld) ?_
          case hy12 => (intro w hSw; go_simp; try with_reducible rfl)
          try simp only [Act.put, List.setIfInBounds_toArray, List.set_cons_zero, List.set_cons_succ]
          refine wpAnyK_take 1 [8, 10] (v := ?v13) rfl (by kernel_rfl) (fun _ _ _ h => h) (Or.inl ⟨by rfl, ?hy13⟩) hHeld ?_
          case hy13 => (intro w hSw; (try dsimp only at hSw); go_simp; try with_reducible rfl)
          try simp only [Act.put, List.setIfInBounds_toArray, List.set_cons_zero, List.set_cons_succ]
          refine wpAnyK_take0 2 (v := ?v14) rfl (by kernel_rfl) (fun _ _ _ h => h) (Or.inl ⟨by rfl, ?hy14⟩) (fun _ => hHeld) ?_
          case hy14 => (intro w hSw; go_simp; try with_reducible rfl)
          try simp only [Act.put, List.setIfInBounds_toArray, List.set_cons_zero, List.set_cons_succ]
          refine wpAnyK_take 3 [5, 6, 7, 8, 10] (v := ?v15) rfl (by kernel_rfl) (fun _ _ _ h => h) (Or.inl ⟨by rfl, ?hy15⟩) hHeld ?_
          case hy15 => (intro w hSw; (try dsimp only at hSw); go_simp; try with_reducible rfl)
          try simp only [Act.put, List.setIfInBounds_toArray, List.set_cons_zero, List.set_cons_succ]
          refine wpAnyK_take0 4 (v := ?v16) rfl (by kernel_rfl) (fun _ _ _ h => h) (Or.inl ⟨by rfl, ?hy16⟩) (fun _ => hHeld) ?_
          case hy16 => (intro w hSw; go_simp; try with_reducible rfl)
          try simp only [Act.put, List.setIfInBounds_toArray, List.set_cons_zero, List.set_cons_succ]
          refine wpAnyK_take0 5 (v := ?v17) rfl (by kernel_rfl) (fun _ _ _ h => h) (Or.inl ⟨by rfl, ?hy17⟩) (fun _ => hHeld) ?_
          case hy17 => (intro w hSw; go_simp; try with_reducible rfl)
          try simp only [Act.put, List.setIfInBounds_toArray, List.set_cons_zero, List.set_cons_succ]
          refine wpAnyK_take 6 [7, 8, 10] (v := ?v18) rfl (by kernel_rfl) (fun _ _ _ h => h) (Or.inl ⟨by rfl, ?hy18⟩) hHeld ?_
          case hy18 => (intro w hSw; (try dsimp only at hSw); go_simp; try with_reducible rfl)
          try simp only [Act.put, List.setIfInBounds_toArray, List.set_cons_zero, List.set_cons_succ]
          refine wpAnyK_step 7 rfl (by kernel_rfl) (fun K hK => ?_)
          go_simp
          try dsimp only
          refine (fun hHeld => hK.out _ _ (fun _ => hHeld) ?_) ⟨(HQd.out.alloc (.cells #[.int .u32 (z : Int)] 51)).bc.cell 1 (by simp), (HQd.out.alloc (.cells #[.int .u32 (z : Int)] 51)).ba.cell 1 (by simp), HZ ((HQd.out.alloc (.cells #[.int .u32 (z : Int)] 51)).bel), (HQd.out.alloc (.cells #[.int .u32 (z : Int)] 51)).bc.frozen 1⟩
          clear hK K
          try simp only [Act.put, List.setIfInBounds_toArray, List.set_cons_zero, List.set_cons_succ]
          refine wpAnyK_step 8 rfl (by kernel_rfl) (fun K hK => ?_)
          rw [if_pos (by kernel_rfl)]
          refine Lib.wp_append_run _ (.tmp 34) (.tmp 40) 24 24 rfl _ _ rfl rfl _ _ hrun ?_
          refine (fun hHeld => hK.out _ _ (fun _ => hHeld) ?_) ⟨HM.out.bc.cell 1 (by simp), HM.out.ba.cell 1 (by simp), HZ (HM.out.bel), HM.out.bc.frozen 1⟩
          clear hK K
          try simp only [Act.put, List.setIfInBounds_toArray, List.set_cons_zero, List.set_cons_succ]
          refine wpAnyK_take0 9 (v := ?v21) rfl (by kernel_rfl) (fun _ _ _ h => h) (Or.inl ⟨by rfl, ?hy21⟩) (fun _ => hHeld) ?_
          case hy21 => (intro w hSw; go_simp; try with_reducible rfl)
          try simp only [Act.put, List.setIfInBounds_toArray, List.set_cons_zero, List.set_cons_succ]
          refine wpAnyK_step 10 rfl (by kernel_rfl) (fun K hK => ?_)
          go_simp
          refine hK.out _ _ ?hk22 ?_
          case hk22 => exact (fun h => nomatch (h.symm.trans (show _ = true by kernel_rfl)))
          clear hK K
          try simp only [Act.put, List.setIfInBounds_toArray, List.set_cons_zero, List.set_cons_succ]
          refine wpAnyK_done (by kernel_rfl) ?_ _
          go_wp2
          go_roundw
          case rel => exact ⟨i + 1, _, _, by go_num, by omega, HN⟩
          case measure => simp [intOf]; omega
        · obtain rfl : n2 = i := by omega
          have HE : Hid (Cq w wr [.slice x0 n1 x2, .slice y0 n2 y2, .bool inf] inf v1 v2 v1 v2 xs ys) := (by have h := HQ.out; rw [List.take_of_length_le (by rw [Hn2.out]; exact Nat.le_refl _)] at h; exact h : Cq w wr [.slice x0 n1 x2, .slice y0 n2 y2, .bool inf] inf v1 v2 v1 v2 xs ys)
          obtain ⟨va, vn, vc, ev⟩ : ∃ a n c, v1 = .slice a n c := by
            rcases HE.out.o1.2 with ⟨e, _⟩ | ⟨g, cap, cur, e, _⟩
            · exact ⟨_, _, _, e⟩
            · exact ⟨_, _, _, e⟩
          subst ev
          obtain ⟨wa, wn, wc, ew⟩ : ∃ a n c, v2 = .slice a n c := by
            rcases HE.out.o2.2 with ⟨e, _⟩ | ⟨g, cap, cur, e, _⟩
            · exact ⟨_, _, _, e⟩
            · exact ⟨_, _, _, e⟩
          subst ew
          have c0 : wr.cell? ⟨w.heap.size + 2, 0, none⟩ = some (.slice va vn vc) := HE.out.bc.cell 0 (by simp)
          have c1 : wr.cell? ⟨w.heap.size + 2, 1, none⟩ = some (.slice wa wn wc) := HE.out.bc.cell 1 (by simp)
          have c2 : wr.cell? ⟨w.heap.size + 2, 2, none⟩ = some (.bool inf) := HE.out.bc.cell 2 (by simp)
          have z0 : wr.cell? ⟨w.heap.size + 1, 0, none⟩ = some (.slice none 0 0) := HE.out.bz.cell 0 (by simp)
          have q0 : wr.frozen? ⟨w.heap.size + 1, 0, none⟩ = false := HE.out.bz.frozen 0
          have z1 : wr.cell? ⟨w.heap.size + 1, 1, none⟩ = some (.slice none 0 0) := HE.out.bz.cell 1 (by simp)
          have q1 : wr.frozen? ⟨w.heap.size + 1, 1, none⟩ = false := HE.out.bz.frozen 1
          have z2 : wr.cell? ⟨w.heap.size + 1, 2, none⟩ = some (.bool false) := HE.out.bz.cell 2 (by simp)
          have q2 : wr.frozen? ⟨w.heap.size + 1, 2, none⟩ = false := HE.out.bz.frozen 2
          clear HQ
          go_wp2
          (try simp only [Exit.inBlock, Exit.then])
          have hb := (((But.refl wr (w.heap.size + 1)).set 0 (.slice va vn vc)).set 1 (.slice wa wn wc)).set 2 (.bool inf)
          have hf1 := HE.out.f1
          have hf2 := HE.out.f2
          refine bodyPost_ret (v := .agg #[.slice va vn vc, .slice wa wn wc, .bool inf]) ?_ rfl ⟨_, _, rfl, Ow.nm (own_but HE.out.o1 hb (fun e => by have := hf1 _ e; omega)) HR.out.2.2.1, Ow.nm (own_but HE.out.o2 hb (fun e => by have := hf2 _ e; omega)) HR.out.2.2.2, HE.out.bel.trans (hb.below HE.out.bel.size (by omega))⟩
          rw [results_cell rfl]; go_simp
end Go.Proofs.YtmngdaolgdhgmaaGreatDoor
