import Derived.Test.YtmngdaolgdhgmaaGreatDoorCMk
namespace Go.Proofs.YtmngdaolgdhgmaaGreatDoor
open Go.RowKit

set_option maxRecDepth 100000

theorem own_but {w w' : World} {b0 n b : Nat} {e : TypeId} {v : Value} {xs : List Value} (h : w.ownsRow b0 e 1 v n xs) (hb : But w w' b) (hf : v.ownBlock ≠ some b) : w'.ownsRow b0 e 1 v n xs := by
  refine ⟨h.1, ?_⟩
  rcases h.2 with h1 | ⟨g, cap, cur, e, hg, hh, hr⟩
  · exact .inl h1
  · refine .inr ⟨g, cap, cur, e, hg, ?_, hr⟩
    rw [hb.block g (Array.getElem?_eq_some_iff.1 hh).1 (fun e2 => hf (by rw [e, ← e2]; rfl))]
    exact hh
theorem Lk.but {w w' : World} {base g cap b : Nat} {xs : List Nat} (h : Lk w base g cap xs) (hb : But w w' b) (hf : g ≠ b) : Lk w' base g cap xs := own_but h hb (fun e => by injection e with e; exact hf e)
theorem Lk.base {w : World} {base base' g cap : Nat} {xs : List Nat} (h : Lk w base g cap xs) (hb : base' ≤ base) : Lk w base' g cap xs := by
  refine ⟨h.1, ?_⟩
  rcases h.2 with h1 | ⟨g, cap, cur, e, hg, hh, hr⟩
  · exact .inl h1
  · exact .inr ⟨g, cap, cur, e, Nat.le_trans hb hg, hh, hr⟩
theorem marked_w (ao : Option Addr) (n c : Nat) (xs : List Nat) (w : World) (hr : Rn w ao xs) (hl : xs.length ≤ 3000000) (hn : xs.length = n) :
    Calls Tryz.prog 35 #[.slice ao n c] w fun e w' => ∃ g cap, e = .returned (.slice (some ⟨g, 0, none⟩) n cap) ∧ Lk w' w.heap.size g cap xs ∧ Below w.heap.size w w' := by
  subst hn
  exact marked_v ao c xs w hr hl
set_option maxHeartbeats 8000000 in
theorem lent_v (x y : Value) (xs ys : List Nat) (inf : Bool) (w : World) (hx : Nm w x xs) (hy : Nm w y ys) (l1 : xs.length ≤ 3000000) (l2 : ys.length ≤ 3000000) :
    Calls Tryz.prog 7 #[.agg #[x, y, .bool inf]] w fun e w' => ∃ g1 d1 g2 d2, e = .returned (.agg #[.slice (some ⟨g1, 0, none⟩) xs.length d1, .slice (some ⟨g2, 0, none⟩) ys.length d2, .bool inf]) ∧ Lk w' w.heap.size g1 d1 xs ∧ Lk w' w.heap.size g2 d2 ys ∧ g1 < g2 ∧ Below w.heap.size w w' := by
  obtain ⟨x0, x2, rfl, _, rx, _⟩ := hx
  obtain ⟨y0, y2, rfl, _, ry, _⟩ := hy
  have HR : Hid (Rn w x0 xs ∧ Rn w y0 ys) := ⟨rx, ry⟩
  have HL : Hid (xs.length ≤ 3000000 ∧ ys.length ≤ 3000000) := ⟨l1, l2⟩
  obtain ⟨x1, Hx1⟩ : ∃ n, Hid (xs.length = n) := ⟨_, rfl⟩
  obtain ⟨y1, Hy1⟩ : ∃ n, Hid (ys.length = n) := ⟨_, rfl⟩
  rw [Hx1.out, Hy1.out]
  clear rx ry
  have HF0 : Hid (Fm w ((w.alloc (.cells #[.slice x0 x1 x2, .slice y0 y1 y2, .bool inf] 26)).alloc (.cells #[.slice none 0 0, .slice none 0 0, .bool false] 26)) [(26, [.slice x0 x1 x2, .slice y0 y1 y2, .bool inf]), (26, [.slice none 0 0, .slice none 0 0, .bool false])] [] []) := (((Fm.nil (w := w) (A := []) ar_nil).push (by simp) 26 [.slice x0 x1 x2, .slice y0 y1 y2, .bool inf]).push (by simp) 26 [.slice none 0 0, .slice none 0 0, .bool false])
  go_enter Tryz.func7, Tryz.ntmps7
  go_wp2_with fail
  generalize ((w.alloc (.cells #[.slice x0 x1 x2, .slice y0 y1 y2, .bool inf] 26)).alloc (.cells #[.slice none 0 0, .slice none 0 0, .bool false] 26)) = w0 at *
  have HFd : Hid (Fm w w0.drew [(26, [.slice x0 x1 x2, .slice y0 y1 y2, .bool inf]), (26, [.slice none 0 0, .slice none 0 0, .bool false])] [] []) := HF0.out.drew
  have Hsz : Hid (w.heap.size + 2 ≤ w0.drew.heap.size) := HFd.out.sz
  refine wp_region_K 9 (fun (w' : World) => w'.cell? ⟨w.heap.size, 0, none⟩ = some (.slice x0 x1 x2) ∧ w'.cell? ⟨w.heap.size, 1, none⟩ = some (.slice y0 y1 y2) ∧ w'.cell? ⟨w.heap.size, 2, none⟩ = some (.bool inf)) (by kernel_rfl) ?_
  have hHeld : ((fun (w' : World) => w'.cell? ⟨w.heap.size, 0, none⟩ = some (.slice x0 x1 x2) ∧ w'.cell? ⟨w.heap.size, 1, none⟩ = some (.slice y0 y1 y2) ∧ w'.cell? ⟨w.heap.size, 2, none⟩ = some (.bool inf))) (World.drew _) := ⟨HFd.out.cell 0 0 (Nat.le_of_ble_eq_true rfl) (Nat.le_of_ble_eq_true rfl), HFd.out.cell 0 1 (Nat.le_of_ble_eq_true rfl) (Nat.le_of_ble_eq_true rfl), HFd.out.cell 0 2 (Nat.le_of_ble_eq_true rfl) (Nat.le_of_ble_eq_true rfl)⟩
  refine wpAnyK_take0 0 (v := ?v1) rfl (by kernel_rfl) (fun _ _ _ h => h) (Or.inl ⟨by rfl, ?hy1⟩) (fun _ => hHeld) ?_
  case hy1 => (intro w hSw; go_simp; try with_reducible rfl)
  try simp only [Act.put, List.setIfInBounds_toArray, List.set_cons_zero, List.set_cons_succ]
  refine wpAnyK_take 1 [2, 8, 9] (v := ?v2) rfl (by kernel_rfl) (fun _ _ _ h => h) (Or.inl ⟨by rfl, ?hy2⟩) hHeld ?_
  case hy2 => (intro w hSw; (try dsimp only at hSw); go_simp; try with_reducible rfl)
  try simp only [Act.put, List.setIfInBounds_toArray, List.set_cons_zero, List.set_cons_succ]
  refine wpAnyK_take0 3 (v := ?v3) rfl (by kernel_rfl) (fun _ _ _ h => h) (Or.inl ⟨by rfl, ?hy3⟩) (fun _ => hHeld) ?_
  case hy3 => (intro w hSw; go_simp; try with_reducible rfl)
  try simp only [Act.put, List.setIfInBounds_toArray, List.set_cons_zero, List.set_cons_succ]
  refine wpAnyK_take 4 [5, 8, 9] (v := ?v4) rfl (by kernel_rfl) (fun _ _ _ h => h) (Or.inl ⟨by rfl, ?hy4⟩) hHeld ?_
  case hy4 => (intro w hSw; (try dsimp only at hSw); go_simp; try with_reducible rfl)
  try simp only [Act.put, List.setIfInBounds_toArray, List.set_cons_zero, List.set_cons_succ]
  refine wpAnyK_take0 6 (v := ?v5) rfl (by kernel_rfl) (fun _ _ _ h => h) (Or.inl ⟨by rfl, ?hy5⟩) (fun _ => hHeld) ?_
  case hy5 => (intro w hSw; go_simp; try with_reducible rfl)
  try simp only [Act.put, List.setIfInBounds_toArray, List.set_cons_zero, List.set_cons_succ]
  refine wpAnyK_take 7 [8, 9] (v := ?v6) rfl (by kernel_rfl) (fun _ _ _ h => h) (Or.inl ⟨by rfl, ?hy6⟩) hHeld ?_
  case hy6 => (intro w hSw; (try dsimp only at hSw); go_simp; try with_reducible rfl)
  try simp only [Act.put, List.setIfInBounds_toArray, List.set_cons_zero, List.set_cons_succ]
  refine wpAnyK_step 2 rfl (by kernel_rfl) (fun K hK => ?_)
  go_simp
  refine (marked_w x0 x1 x2 xs _ (HR.out.1.below HFd.out.bel (Nat.le_refl _)) HL.out.1 Hx1.out).mono ?_
  rintro e w1 ⟨g1, d1, rfl, k1, hB⟩
  have HK1 : Hid (Lk w1 w0.drew.heap.size g1 d1 xs) := k1
  clear k1
  have HF1 : Hid (Fm w w1 [(26, [.slice x0 x1 x2, .slice y0 y1 y2, .bool inf]), (26, [.slice none 0 0, .slice none 0 0, .bool false])] [] []) := HFd.out.below hB
  clear hB
  try dsimp only
  refine hK.out _ _ ?hk7 ?_
  case hk7 => exact fun _ => ⟨HF1.out.cell 0 0 (Nat.le_of_ble_eq_true rfl) (Nat.le_of_ble_eq_true rfl), HF1.out.cell 0 1 (Nat.le_of_ble_eq_true rfl) (Nat.le_of_ble_eq_true rfl), HF1.out.cell 0 2 (Nat.le_of_ble_eq_true rfl) (Nat.le_of_ble_eq_true rfl)⟩
  have hHeld : ((fun (w' : World) => w'.cell? ⟨w.heap.size, 0, none⟩ = some (.slice x0 x1 x2) ∧ w'.cell? ⟨w.heap.size, 1, none⟩ = some (.slice y0 y1 y2) ∧ w'.cell? ⟨w.heap.size, 2, none⟩ = some (.bool inf))) _ := ⟨HF1.out.cell 0 0 (Nat.le_of_ble_eq_true rfl) (Nat.le_of_ble_eq_true rfl), HF1.out.cell 0 1 (Nat.le_of_ble_eq_true rfl) (Nat.le_of_ble_eq_true rfl), HF1.out.cell 0 2 (Nat.le_of_ble_eq_true rfl) (Nat.le_of_ble_eq_true rfl)⟩
  clear hK K
  try simp only [Act.put, List.setIfInBounds_toArray, List.set_cons_zero, List.set_cons_succ]
  refine wpAnyK_step 5 rfl (by kernel_rfl) (fun K hK => ?_)
  go_simp
  refine (marked_w y0 y1 y2 ys _ (HR.out.2.below HF1.out.bel (Nat.le_refl _)) HL.out.2 Hy1.out).mono ?_
  rintro e w2 ⟨g2, d2, rfl, k2, hB⟩
  have HK2 : Hid (Lk w2 w1.heap.size g2 d2 ys) := k2
  clear k2
  have HF2 : Hid (Fm w w2 [(26, [.slice x0 x1 x2, .slice y0 y1 y2, .bool inf]), (26, [.slice none 0 0, .slice none 0 0, .bool false])] [] []) := HF1.out.below hB
  have HK3 : Hid (Lk w2 w0.drew.heap.size g1 d1 xs ∧ g1 < w1.heap.size) := ⟨HK1.out.below hB (Nat.le_refl _), HK1.out.lt.2⟩
  clear hB
  try dsimp only
  refine hK.out _ _ ?hk8 ?_
  case hk8 => exact fun _ => ⟨HF2.out.cell 0 0 (Nat.le_of_ble_eq_true rfl) (Nat.le_of_ble_eq_true rfl), HF2.out.cell 0 1 (Nat.le_of_ble_eq_true rfl) (Nat.le_of_ble_eq_true rfl), HF2.out.cell 0 2 (Nat.le_of_ble_eq_true rfl) (Nat.le_of_ble_eq_true rfl)⟩
  have hHeld : ((fun (w' : World) => w'.cell? ⟨w.heap.size, 0, none⟩ = some (.slice x0 x1 x2) ∧ w'.cell? ⟨w.heap.size, 1, none⟩ = some (.slice y0 y1 y2) ∧ w'.cell? ⟨w.heap.size, 2, none⟩ = some (.bool inf))) _ := ⟨HF2.out.cell 0 0 (Nat.le_of_ble_eq_true rfl) (Nat.le_of_ble_eq_true rfl), HF2.out.cell 0 1 (Nat.le_of_ble_eq_true rfl) (Nat.le_of_ble_eq_true rfl), HF2.out.cell 0 2 (Nat.le_of_ble_eq_true rfl) (Nat.le_of_ble_eq_true rfl)⟩
  clear hK K
  try simp only [Act.put, List.setIfInBounds_toArray, List.set_cons_zero, List.set_cons_succ]
  refine wpAnyK_take0 8 (v := ?v9) rfl (by kernel_rfl) (fun _ _ _ h => h) (Or.inl ⟨by rfl, ?hy9⟩) (fun _ => hHeld) ?_
  case hy9 => (intro w hSw; go_simp; try with_reducible rfl)
  try simp only [Act.put, List.setIfInBounds_toArray, List.set_cons_zero, List.set_cons_succ]
  refine wpAnyK_step 9 rfl (by kernel_rfl) (fun K hK => ?_)
  rw [if_pos (by kernel_rfl)]
  refine wp_store_row 26 _ _ rfl (w.heap.size + 1) #[.slice (some ⟨g1, 0, none⟩) x1 d1, .slice (some ⟨g2, 0, none⟩) y1 d2, .bool inf] rfl rfl 26 #[.slice none 0 0, .slice none 0 0, .bool false] (HF2.out.bx 1 (Nat.le_of_ble_eq_true rfl)) (by kernel_rfl) rfl (by simp [Value.oneCell']) ?_
  refine hK.out _ _ ?hk10 ?_
  case hk10 => exact (fun h => nomatch (h.symm.trans (show _ = true by kernel_rfl)))
  clear hK K
  try simp only [Act.put]
  refine wpAnyK_done (by kernel_rfl) ?_ _
  go_wp2
  (try simp only [Exit.inBlock, Exit.then])
  have hb := But.setRow w2 (w.heap.size + 1) #[.slice (some ⟨g1, 0, none⟩) x1 d1, .slice (some ⟨g2, 0, none⟩) y1 d2, .bool inf]
  have hs2 := Hsz.out
  refine bodyPost_ret (v := .agg #[.slice (some ⟨g1, 0, none⟩) x1 d1, .slice (some ⟨g2, 0, none⟩) y1 d2, .bool inf]) ?_ rfl ⟨g1, d1, g2, d2, rfl, (HK3.out.1.but hb (by have := HK3.out.1.lt; omega)).base (by omega), (HK2.out.but hb (by have := HK2.out.lt; have := HF1.out.bel.size; have := HF1.out.sz; simp at this; omega)).base (by have := HF1.out.bel.size; omega), by have := HK2.out.lt; have := HK3.out.2; omega, HF2.out.outB 1 (by simp) hb⟩
  exact results_cell_row rfl _ _ (w.heap.size + 1) 26 _ (0, 0) _ rfl (setRow_heap _ _ _ _ _ _ (HF2.out.bx 1 (Nat.le_of_ble_eq_true rfl))) Tryz.underlying26 rfl (by kernel_rfl)
set_option maxHeartbeats 8000000 in
theorem still_v {b1 g1 d1 b2 g2 d2 : Nat} (x y : Value) (xs ys : List Nat) (inf : Bool) (w : World) (k1 : Lk w b1 g1 d1 xs) (k2 : Lk w b2 g2 d2 ys) (hx : Nm w x xs) (hy : Nm w y ys) (l1 : xs.length ≤ 3000000) (l2 : ys.length ≤ 3000000) :
    Calls Tryz.prog 20 #[.agg #[.slice (some ⟨g1, 0, none⟩) xs.length d1, .slice (some ⟨g2, 0, none⟩) ys.length d2, .bool inf], .agg #[x, y, .bool inf]] w fun e w' => e = .returned (.bool true) ∧ Below w.heap.size w w' := by
  obtain ⟨x0, x2, rfl, _, rx, _⟩ := hx
  obtain ⟨y0, y2, rfl, _, ry, _⟩ := hy
  have Hr0 : Hid (Rn w x0 xs) := rx
  have Hq0 : Hid (Rn w y0 ys) := ry
  have Hu0 : Hid (Lk w b1 g1 d1 xs) := k1
  have Hv0 : Hid (Lk w b2 g2 d2 ys) := k2
  have HB0 : Hid (Below w.heap.size w w) := Below.refl _ _
  have HL : Hid (xs.length ≤ 3000000 ∧ ys.length ≤ 3000000) := ⟨l1, l2⟩
  have hff : (inf == inf) = true := by simp
  clear rx ry k1 k2
  have hfm : Fm w ((w.alloc (.cells #[.slice (some ⟨g1, 0, none⟩) xs.length d1, .slice (some ⟨g2, 0, none⟩) ys.length d2, .bool inf] 26)).alloc (.cells #[.slice x0 xs.length x2, .slice y0 ys.length y2, .bool inf] 26)) [(26, [.slice (some ⟨g1, 0, none⟩) xs.length d1, .slice (some ⟨g2, 0, none⟩) ys.length d2, .bool inf]), (26, [.slice x0 xs.length x2, .slice y0 ys.length y2, .bool inf])] [] [] := ((Fm.nil (w := w) (A := []) ar_nil).push (by simp) 26 [.slice (some ⟨g1, 0, none⟩) xs.length d1, .slice (some ⟨g2, 0, none⟩) ys.length d2, .bool inf]).push (by simp) 26 [.slice x0 xs.length x2, .slice y0 ys.length y2, .bool inf]
  have Hs1 : Hid (Below w.heap.size w ((w.alloc (.cells #[.slice (some ⟨g1, 0, none⟩) xs.length d1, .slice (some ⟨g2, 0, none⟩) ys.length d2, .bool inf] 26)).alloc (.cells #[.slice x0 xs.length x2, .slice y0 ys.length y2, .bool inf] 26))) := hfm.bel
  have Hba0 : Hid (Bl 26 ((w.alloc (.cells #[.slice (some ⟨g1, 0, none⟩) xs.length d1, .slice (some ⟨g2, 0, none⟩) ys.length d2, .bool inf] 26)).alloc (.cells #[.slice x0 xs.length x2, .slice y0 ys.length y2, .bool inf] 26)) w.heap.size [.slice (some ⟨g1, 0, none⟩) xs.length d1, .slice (some ⟨g2, 0, none⟩) ys.length d2, .bool inf]) := hfm.bx 0 (by simp)
  have Hbb0 : Hid (Bl 26 ((w.alloc (.cells #[.slice (some ⟨g1, 0, none⟩) xs.length d1, .slice (some ⟨g2, 0, none⟩) ys.length d2, .bool inf] 26)).alloc (.cells #[.slice x0 xs.length x2, .slice y0 ys.length y2, .bool inf] 26)) (w.heap.size + 1) [.slice x0 xs.length x2, .slice y0 ys.length y2, .bool inf]) := hfm.bx 1 (by simp)
  clear hfm
  go_enter Tryz.func20, Tryz.ntmps20
  have ka_0 : ((w.alloc (.cells #[.slice (some ⟨g1, 0, none⟩) xs.length d1, .slice (some ⟨g2, 0, none⟩) ys.length d2, .bool inf] 26)).alloc (.cells #[.slice x0 xs.length x2, .slice y0 ys.length y2, .bool inf] 26)).cell? ⟨w.heap.size, 0, none⟩ = some (.slice (some ⟨g1, 0, none⟩) xs.length d1) := Hba0.out.cell 0 (by simp)
  have ka_1 : ((w.alloc (.cells #[.slice (some ⟨g1, 0, none⟩) xs.length d1, .slice (some ⟨g2, 0, none⟩) ys.length d2, .bool inf] 26)).alloc (.cells #[.slice x0 xs.length x2, .slice y0 ys.length y2, .bool inf] 26)).cell? ⟨w.heap.size, 1, none⟩ = some (.slice (some ⟨g2, 0, none⟩) ys.length d2) := Hba0.out.cell 1 (by simp)
  have ka_2 : ((w.alloc (.cells #[.slice (some ⟨g1, 0, none⟩) xs.length d1, .slice (some ⟨g2, 0, none⟩) ys.length d2, .bool inf] 26)).alloc (.cells #[.slice x0 xs.length x2, .slice y0 ys.length y2, .bool inf] 26)).cell? ⟨w.heap.size, 2, none⟩ = some (.bool inf) := Hba0.out.cell 2 (by simp)
  have kb_0 : ((w.alloc (.cells #[.slice (some ⟨g1, 0, none⟩) xs.length d1, .slice (some ⟨g2, 0, none⟩) ys.length d2, .bool inf] 26)).alloc (.cells #[.slice x0 xs.length x2, .slice y0 ys.length y2, .bool inf] 26)).cell? ⟨w.heap.size + 1, 0, none⟩ = some (.slice x0 xs.length x2) := Hbb0.out.cell 0 (by simp)
  have kb_1 : ((w.alloc (.cells #[.slice (some ⟨g1, 0, none⟩) xs.length d1, .slice (some ⟨g2, 0, none⟩) ys.length d2, .bool inf] 26)).alloc (.cells #[.slice x0 xs.length x2, .slice y0 ys.length y2, .bool inf] 26)).cell? ⟨w.heap.size + 1, 1, none⟩ = some (.slice y0 ys.length y2) := Hbb0.out.cell 1 (by simp)
  have kb_2 : ((w.alloc (.cells #[.slice (some ⟨g1, 0, none⟩) xs.length d1, .slice (some ⟨g2, 0, none⟩) ys.length d2, .bool inf] 26)).alloc (.cells #[.slice x0 xs.length x2, .slice y0 ys.length y2, .bool inf] 26)).cell? ⟨w.heap.size + 1, 2, none⟩ = some (.bool inf) := Hbb0.out.cell 2 (by simp)
  go_wp2_with fail
  clear ka_0 ka_1 ka_2 kb_0 kb_1 kb_2
  generalize ((w.alloc (.cells #[.slice (some ⟨g1, 0, none⟩) xs.length d1, .slice (some ⟨g2, 0, none⟩) ys.length d2, .bool inf] 26)).alloc (.cells #[.slice x0 xs.length x2, .slice y0 ys.length y2, .bool inf] 26)) = wv2 at *
  have Hu1 : Hid (Lk wv2 b1 g1 d1 xs) := Hu0.out.below Hs1.out (Nat.le_refl _)
  have Hr1 : Hid (Rn wv2 x0 xs) := Hr0.out.below Hs1.out (Nat.le_refl _)
  refine (whole_v b1 g1 d1 x0 x2 xs _ Hu1.out Hr1.out HL.out.1).mono ?_
  rintro e w3 ⟨rfl, q_, hq_⟩
  have Hs4 : Hid (Below wv2.heap.size wv2 w3) := (by rw [hq_]; exact below_drewN (Below.refl _ _) q_ : Below _ _ _)
  clear hq_ q_
  have Hba1 : Hid (Bl 26 w3 w.heap.size [.slice (some ⟨g1, 0, none⟩) xs.length d1, .slice (some ⟨g2, 0, none⟩) ys.length d2, .bool inf]) := Hba0.out.below Hs4.out Hba0.out.lt
  have ka_0 : w3.cell? ⟨w.heap.size, 0, none⟩ = some (.slice (some ⟨g1, 0, none⟩) xs.length d1) := Hba1.out.cell 0 (by simp)
  have ka_1 : w3.cell? ⟨w.heap.size, 1, none⟩ = some (.slice (some ⟨g2, 0, none⟩) ys.length d2) := Hba1.out.cell 1 (by simp)
  have ka_2 : w3.cell? ⟨w.heap.size, 2, none⟩ = some (.bool inf) := Hba1.out.cell 2 (by simp)
  have Hbb1 : Hid (Bl 26 w3 (w.heap.size + 1) [.slice x0 xs.length x2, .slice y0 ys.length y2, .bool inf]) := Hbb0.out.below Hs4.out Hbb0.out.lt
  have kb_0 : w3.cell? ⟨w.heap.size + 1, 0, none⟩ = some (.slice x0 xs.length x2) := Hbb1.out.cell 0 (by simp)
  have kb_1 : w3.cell? ⟨w.heap.size + 1, 1, none⟩ = some (.slice y0 ys.length y2) := Hbb1.out.cell 1 (by simp)
  have kb_2 : w3.cell? ⟨w.heap.size + 1, 2, none⟩ = some (.bool inf) := Hbb1.out.cell 2 (by simp)
  go_wp2_with fail
  clear ka_0 ka_1 ka_2 kb_0 kb_1 kb_2
  have Hv1 : Hid (Lk w3 b2 g2 d2 ys) := Hv0.out.below (btr Hs1.out Hs4.out) (Nat.le_refl _)
  have Hq1 : Hid (Rn w3 y0 ys) := Hq0.out.below (btr Hs1.out Hs4.out) (Nat.le_refl _)
  refine (whole_v b2 g2 d2 y0 y2 ys _ Hv1.out Hq1.out HL.out.2).mono ?_
  rintro e w5 ⟨rfl, q_, hq_⟩
  have Hs6 : Hid (Below w3.heap.size w3 w5) := (by rw [hq_]; exact below_drewN (Below.refl _ _) q_ : Below _ _ _)
  clear hq_ q_
  have HB1 : Hid (Below w.heap.size w w5) := HB0.out.trans ((btr Hs1.out (btr Hs4.out Hs6.out)).mono HB0.out.size)
  go_wp2
  go_ret
  exact ⟨rfl, HB1.out⟩
theorem Ob'.but {w w' : World} {base b : Nat} {v : Value} {V : Nat} (h : Ob' w base v V) (hb : But w w' b) (hf : b < base) : Ob' w' base v V := ⟨own_but h.1 hb (fun e => by have := (World.ownsRow.lt h.1 b e).1; omega), h.2⟩
theorem Ob'.base {w : World} {base base' : Nat} {v : Value} {V : Nat} (h : Ob' w base v V) (hb : base' ≤ base) : Ob' w base' v V := ⟨h.1.base hb, h.2⟩
set_option maxHeartbeats 8000000 in
theorem proper_p (x y : Value) (X Y : Nat) (inf : Bool) (w : World) (hx : Nu w x X) (hy : Nu w y Y) :
    Calls Tryz.prog 55 #[.agg #[x, y, .bool inf]] w fun e w' => ∃ a b, e = .returned (.agg #[a, b, .bool inf]) ∧ Ob' w' w.heap.size a X ∧ Ob' w' w.heap.size b Y ∧ Below w.heap.size w w' := by
  obtain ⟨x0, x1, x2, rfl⟩ := hx.shape
  obtain ⟨y0, y1, y2, rfl⟩ := hy.shape
  have HR : Hid (Nu w (.slice x0 x1 x2) X ∧ Nu w (.slice y0 y1 y2) Y) := ⟨hx, hy⟩
  clear hx hy
  have HF0 : Hid (Fm w ((w.alloc (.cells #[.slice x0 x1 x2, .slice y0 y1 y2, .bool inf] 26)).alloc (.cells #[.slice none 0 0, .slice none 0 0, .bool false] 26)) [(26, [.slice x0 x1 x2, .slice y0 y1 y2, .bool inf]), (26, [.slice none 0 0, .slice none 0 0, .bool false])] [] []) := (((Fm.nil (w := w) (A := []) ar_nil).push (by simp) 26 [.slice x0 x1 x2, .slice y0 y1 y2, .bool inf]).push (by simp) 26 [.slice none 0 0, .slice none 0 0, .bool false])
  go_enter Tryz.func55, Tryz.ntmps55
  go_wp2_with fail
  generalize ((w.alloc (.cells #[.slice x0 x1 x2, .slice y0 y1 y2, .bool inf] 26)).alloc (.cells #[.slice none 0 0, .slice none 0 0, .bool false] 26)) = w0 at *
  have HFd : Hid (Fm w w0.drew [(26, [.slice x0 x1 x2, .slice y0 y1 y2, .bool inf]), (26, [.slice none 0 0, .slice none 0 0, .bool false])] [] []) := HF0.out.drew
  have Hsz : Hid (w.heap.size + 2 ≤ w0.drew.heap.size) := HFd.out.sz
  refine wp_region_K 9 (fun (w' : World) => w'.cell? ⟨w.heap.size, 0, none⟩ = some (.slice x0 x1 x2) ∧ w'.cell? ⟨w.heap.size, 1, none⟩ = some (.slice y0 y1 y2) ∧ w'.cell? ⟨w.heap.size, 2, none⟩ = some (.bool inf)) (by kernel_rfl) ?_
  have hHeld : ((fun (w' : World) => w'.cell? ⟨w.heap.size, 0, none⟩ = some (.slice x0 x1 x2) ∧ w'.cell? ⟨w.heap.size, 1, none⟩ = some (.slice y0 y1 y2) ∧ w'.cell? ⟨w.heap.size, 2, none⟩ = some (.bool inf))) (World.drew _) := ⟨HFd.out.cell 0 0 (Nat.le_of_ble_eq_true rfl) (Nat.le_of_ble_eq_true rfl), HFd.out.cell 0 1 (Nat.le_of_ble_eq_true rfl) (Nat.le_of_ble_eq_true rfl), HFd.out.cell 0 2 (Nat.le_of_ble_eq_true rfl) (Nat.le_of_ble_eq_true rfl)⟩
  refine wpAnyK_take0 0 (v := ?v11) rfl (by kernel_rfl) (fun _ _ _ h => h) (Or.inl ⟨by rfl, ?hy11⟩) (fun _ => hHeld) ?_
  case hy11 => (intro w hSw; go_simp; try with_reducible rfl)
  try simp only [Act.put, List.setIfInBounds_toArray, List.set_cons_zero, List.set_cons_succ]
  refine wpAnyK_take 1 [2, 8, 9] (v := ?v12) rfl (by kernel_rfl) (fun _ _ _ h => h) (Or.inl ⟨by rfl, ?hy12⟩) hHeld ?_
  case hy12 => (intro w hSw; (try dsimp only at hSw); go_simp; try with_reducible rfl)
  try simp only [Act.put, List.setIfInBounds_toArray, List.set_cons_zero, List.set_cons_succ]
  refine wpAnyK_take0 3 (v := ?v13) rfl (by kernel_rfl) (fun _ _ _ h => h) (Or.inl ⟨by rfl, ?hy13⟩) (fun _ => hHeld) ?_
  case hy13 => (intro w hSw; go_simp; try with_reducible rfl)
  try simp only [Act.put, List.setIfInBounds_toArray, List.set_cons_zero, List.set_cons_succ]
  refine wpAnyK_take 4 [5, 8, 9] (v := ?v14) rfl (by kernel_rfl) (fun _ _ _ h => h) (Or.inl ⟨by rfl, ?hy14⟩) hHeld ?_
  case hy14 => (intro w hSw; (try dsimp only at hSw); go_simp; try with_reducible rfl)
  try simp only [Act.put, List.setIfInBounds_toArray, List.set_cons_zero, List.set_cons_succ]
  refine wpAnyK_take0 6 (v := ?v15) rfl (by kernel_rfl) (fun _ _ _ h => h) (Or.inl ⟨by rfl, ?hy15⟩) (fun _ => hHeld) ?_
  case hy15 => (intro w hSw; go_simp; try with_reducible rfl)
  try simp only [Act.put, List.setIfInBounds_toArray, List.set_cons_zero, List.set_cons_succ]
  refine wpAnyK_take 7 [8, 9] (v := ?v16) rfl (by kernel_rfl) (fun _ _ _ h => h) (Or.inl ⟨by rfl, ?hy16⟩) hHeld ?_
  case hy16 => (intro w hSw; (try dsimp only at hSw); go_simp; try with_reducible rfl)
  try simp only [Act.put, List.setIfInBounds_toArray, List.set_cons_zero, List.set_cons_succ]
  refine wpAnyK_step 2 rfl (by kernel_rfl) (fun K hK => ?_)
  go_simp
  refine (properq (HR.out.1.below HFd.out.bel (Nat.le_refl _))).mono ?_
  rintro e w1 ⟨r1, rfl, k1, hB⟩
  obtain ⟨a1, n1, d1, rfl⟩ := k1.nu.shape
  have HK1 : Hid (Ob' w1 w0.drew.heap.size (.slice a1 n1 d1) X) := k1
  clear k1
  have HF1 : Hid (Fm w w1 [(26, [.slice x0 x1 x2, .slice y0 y1 y2, .bool inf]), (26, [.slice none 0 0, .slice none 0 0, .bool false])] [] []) := HFd.out.below hB
  clear hB
  try dsimp only
  refine hK.out _ _ ?hk17 ?_
  case hk17 => exact fun _ => ⟨HF1.out.cell 0 0 (Nat.le_of_ble_eq_true rfl) (Nat.le_of_ble_eq_true rfl), HF1.out.cell 0 1 (Nat.le_of_ble_eq_true rfl) (Nat.le_of_ble_eq_true rfl), HF1.out.cell 0 2 (Nat.le_of_ble_eq_true rfl) (Nat.le_of_ble_eq_true rfl)⟩
  have hHeld : ((fun (w' : World) => w'.cell? ⟨w.heap.size, 0, none⟩ = some (.slice x0 x1 x2) ∧ w'.cell? ⟨w.heap.size, 1, none⟩ = some (.slice y0 y1 y2) ∧ w'.cell? ⟨w.heap.size, 2, none⟩ = some (.bool inf))) _ := ⟨HF1.out.cell 0 0 (Nat.le_of_ble_eq_true rfl) (Nat.le_of_ble_eq_true rfl), HF1.out.cell 0 1 (Nat.le_of_ble_eq_true rfl) (Nat.le_of_ble_eq_true rfl), HF1.out.cell 0 2 (Nat.le_of_ble_eq_true rfl) (Nat.le_of_ble_eq_true rfl)⟩
  clear hK K
  try simp only [Act.put, List.setIfInBounds_toArray, List.set_cons_zero, List.set_cons_succ]
  refine wpAnyK_step 5 rfl (by kernel_rfl) (fun K hK => ?_)
  go_simp
  refine (properq (HR.out.2.below HF1.out.bel (Nat.le_refl _))).mono ?_
  rintro e w2 ⟨r2, rfl, k2, hB⟩
  obtain ⟨a2, n2, d2, rfl⟩ := k2.nu.shape
  have HK2 : Hid (Ob' w2 w1.heap.size (.slice a2 n2 d2) Y) := k2
  clear k2
  have HF2 : Hid (Fm w w2 [(26, [.slice x0 x1 x2, .slice y0 y1 y2, .bool inf]), (26, [.slice none 0 0, .slice none 0 0, .bool false])] [] []) := HF1.out.below hB
  have HK3 : Hid (Ob' w2 w0.drew.heap.size (.slice a1 n1 d1) X) := HK1.out.below hB
  clear hB
  try dsimp only
  refine hK.out _ _ ?hk18 ?_
  case hk18 => exact fun _ => ⟨HF2.out.cell 0 0 (Nat.le_of_ble_eq_true rfl) (Nat.le_of_ble_eq_true rfl), HF2.out.cell 0 1 (Nat.le_of_ble_eq_true rfl) (Nat.le_of_ble_eq_true rfl), HF2.out.cell 0 2 (Nat.le_of_ble_eq_true rfl) (Nat.le_of_ble_eq_true rfl)⟩
  have hHeld : ((fun (w' : World) => w'.cell? ⟨w.heap.size, 0, none⟩ = some (.slice x0 x1 x2) ∧ w'.cell? ⟨w.heap.size, 1, none⟩ = some (.slice y0 y1 y2) ∧ w'.cell? ⟨w.heap.size, 2, none⟩ = some (.bool inf))) _ := ⟨HF2.out.cell 0 0 (Nat.le_of_ble_eq_true rfl) (Nat.le_of_ble_eq_true rfl), HF2.out.cell 0 1 (Nat.le_of_ble_eq_true rfl) (Nat.le_of_ble_eq_true rfl), HF2.out.cell 0 2 (Nat.le_of_ble_eq_true rfl) (Nat.le_of_ble_eq_true rfl)⟩
  clear hK K
  try simp only [Act.put, List.setIfInBounds_toArray, List.set_cons_zero, List.set_cons_succ]
  refine wpAnyK_take0 8 (v := ?v19) rfl (by kernel_rfl) (fun _ _ _ h => h) (Or.inl ⟨by rfl, ?hy19⟩) (fun _ => hHeld) ?_
  case hy19 => (intro w hSw; go_simp; try with_reducible rfl)
  try simp only [Act.put, List.setIfInBounds_toArray, List.set_cons_zero, List.set_cons_succ]
  refine wpAnyK_step 9 rfl (by kernel_rfl) (fun K hK => ?_)
  rw [if_pos (by kernel_rfl)]
  refine wp_store_row 26 _ _ rfl (w.heap.size + 1) #[.slice a1 n1 d1, .slice a2 n2 d2, .bool inf] rfl rfl 26 #[.slice none 0 0, .slice none 0 0, .bool false] (HF2.out.bx 1 (Nat.le_of_ble_eq_true rfl)) (by kernel_rfl) rfl (by simp [Value.oneCell']) ?_
  refine hK.out _ _ ?hk20 ?_
  case hk20 => exact (fun h => nomatch (h.symm.trans (show _ = true by kernel_rfl)))
  clear hK K
  try simp only [Act.put]
  refine wpAnyK_done (by kernel_rfl) ?_ _
  go_wp2
  (try simp only [Exit.inBlock, Exit.then])
  have hb := But.setRow w2 (w.heap.size + 1) #[.slice a1 n1 d1, .slice a2 n2 d2, .bool inf]
  have hs2 := Hsz.out
  refine bodyPost_ret (v := .agg #[.slice a1 n1 d1, .slice a2 n2 d2, .bool inf]) ?_ rfl ⟨_, _, rfl, (HK3.out.but hb (by omega)).base (by omega), (HK2.out.but hb (by have := HF1.out.sz; simp at this; omega)).base (by have := HF1.out.bel.size; omega), HF2.out.outB 1 (by simp) hb⟩
  exact results_cell_row rfl _ _ (w.heap.size + 1) 26 _ (0, 0) _ rfl (setRow_heap _ _ _ _ _ _ (HF2.out.bx 1 (Nat.le_of_ble_eq_true rfl))) Tryz.underlying26 rfl (by kernel_rfl)
end Go.Proofs.YtmngdaolgdhgmaaGreatDoor
