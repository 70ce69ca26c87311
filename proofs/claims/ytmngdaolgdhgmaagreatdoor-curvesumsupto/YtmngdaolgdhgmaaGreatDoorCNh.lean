import Derived.Test.YtmngdaolgdhgmaaGreatDoorCNg
import Derived.Test.YtmngdaolgdhgmaaGreatDoorCA
namespace Go.Proofs.YtmngdaolgdhgmaaGreatDoor
open Go.RowKit

set_option maxRecDepth 100000

set_option maxHeartbeats 8000000 in
theorem neg_ap {c s : Int} {p b n gx gy : Nat} (hk : Kv c p b n gx gy s) (u v : Value) (U V : Nat) (jnf : Bool) (w : World) (hu : Nu w u U) (hv : Nu w v V) (ho : onB p b U V jnf = true) :
    Calls Tryz.prog 22 #[.int .i64 c, .agg #[u, v, .bool jnf]] w fun e w' => ∃ x y, e = .returned (.tuple #[.agg #[x, y, .bool jnf], .int .i64 0]) ∧ Mk w' w.heap.size x U 384 ∧ Mk w' w.heap.size y (fS p 0 V) 384 ∧ Apt x y ∧ Below w.heap.size w w' := by
  obtain ⟨u0, u1, u2, rfl⟩ := hu.shape
  obtain ⟨v0, v1, v2, rfl⟩ := hv.shape
  have hlt : U < pw 384 ∧ V < pw 384 := onB_lt hk.pm ho
  have HN : Hid (Nk w (.slice u0 u1 u2) U 384 ∧ Nk w (.slice v0 v1 v2) V 384) := ⟨⟨hu, hlt.1⟩, ⟨hv, hlt.2⟩⟩
  have HF0 : Hid (Fm w ((w.alloc (.cells #[.slice u0 u1 u2, .slice v0 v1 v2, .bool jnf] 26)).alloc (.cells #[.slice none 0 0, .slice none 0 0, .bool false] 26)) [(26, [.slice u0 u1 u2, .slice v0 v1 v2, .bool jnf]), (26, [.slice none 0 0, .slice none 0 0, .bool false])] [] []) := (((Fm.nil (w := w) (A := []) ar_nil).push (by simp) 26 [.slice u0 u1 u2, .slice v0 v1 v2, .bool jnf]).push (by simp) 26 [.slice none 0 0, .slice none 0 0, .bool false])
  have Hs : Hid (s ≠ 0) := (by rcases hk.s0 with h | h <;> omega : s ≠ 0)
  have Hp : Hid (Pm p) := hk.pm
  have hsf : ∀ (w : World) (a : Addr) (fn : Fn) (x y : Array Value), Sem.run Tryz.prog (store a (.func fn x y)) w = _ := fun w a fn x y => run_store Tryz.prog w a (.func fn x y) _ rfl
  have hsn : ∀ (w : World) (a : Addr), Sem.run Tryz.prog (store a .nilFunc) w = _ := fun w a => run_store Tryz.prog w a .nilFunc _ rfl
  clear hu hv hlt
  go_enter Tryz.func22, Tryz.ntmps22
  go_wp2_with fail
  generalize ((w.alloc (.cells #[.slice u0 u1 u2, .slice v0 v1 v2, .bool jnf] 26)).alloc (.cells #[.slice none 0 0, .slice none 0 0, .bool false] 26)) = w0 at *
  refine (of_kv hk _).mono ?_
  rintro e w1 ⟨g, rfl, ⟨pv, bv, nv, xv, yv, rfl, m1, m2, m3, m4, m5, ma⟩, hB⟩
  obtain ⟨n0, n1, n2, rfl⟩ := m3.nk.sl
  obtain ⟨gx0, gx1, gx2, rfl⟩ := m4.nk.sl
  obtain ⟨gy0, gy1, gy2, rfl⟩ := m5.nk.sl
  obtain ⟨p0, p1, p2, rfl⟩ := m1.nk.sl
  obtain ⟨b0, b1, b2, rfl⟩ := m2.nk.sl
  have HF1 : Hid (Fm _ _ _ _ _) := HF0.out.below hB
  have HG : Hid (Nk w1 (.slice p0 p1 p2) p 384 ∧ Nk w1 (.slice b0 b1 b2) b 384) := ⟨m1.nk, m2.nk⟩
  clear m1 m2 m3 m4 m5 ma hB HF0
  have a0' : ∀ o, (w1.alloc o).cell? ⟨w.heap.size, 0, none⟩ = some (.slice u0 u1 u2) := fun o => (World.cell?_alloc_lt _ _ _ (HF1.out.bx 0 (Nat.le_of_ble_eq_true rfl)).lt).trans (HF1.out.cell 0 0 (Nat.le_of_ble_eq_true rfl) (Nat.le_of_ble_eq_true rfl))
  have a1' : ∀ o, (w1.alloc o).cell? ⟨w.heap.size, 1, none⟩ = some (.slice v0 v1 v2) := fun o => (World.cell?_alloc_lt _ _ _ (HF1.out.bx 0 (Nat.le_of_ble_eq_true rfl)).lt).trans (HF1.out.cell 0 1 (Nat.le_of_ble_eq_true rfl) (Nat.le_of_ble_eq_true rfl))
  have a2' : ∀ o, (w1.alloc o).cell? ⟨w.heap.size, 2, none⟩ = some (.bool jnf) := fun o => (World.cell?_alloc_lt _ _ _ (HF1.out.bx 0 (Nat.le_of_ble_eq_true rfl)).lt).trans (HF1.out.cell 0 2 (Nat.le_of_ble_eq_true rfl) (Nat.le_of_ble_eq_true rfl))
  go_wp2_with fail
  clear a0' a1' a2'
  have HG2 : Hid (Fm w1 (w1.alloc (.cells #[.slice p0 p1 p2, .slice b0 b1 b2, .int .i64 s, .slice n0 n1 n2, .slice gx0 gx1 gx2, .slice gy0 gy1 gy2, .bool false, .func (.func 98) #[.agg #[.slice p0 p1 p2, .slice b0 b1 b2]] #[]] 57)) [(57, [.slice p0 p1 p2, .slice b0 b1 b2, .int .i64 s, .slice n0 n1 n2, .slice gx0 gx1 gx2, .slice gy0 gy1 gy2, .bool false, .func (.func 98) #[.agg #[.slice p0 p1 p2, .slice b0 b1 b2]] #[]])] [] []) := ((Fm.nil (w := w1) (A := []) ar_nil).push (by simp) 57 [.slice p0 p1 p2, .slice b0 b1 b2, .int .i64 s, .slice n0 n1 n2, .slice gx0 gx1 gx2, .slice gy0 gy1 gy2, .bool false, .func (.func 98) #[.agg #[.slice p0 p1 p2, .slice b0 b1 b2]] #[]])
  have HF2 : Hid (Fm _ _ _ _ _) := HF1.out.below HG2.out.bel
  generalize (w1.alloc (.cells #[.slice p0 p1 p2, .slice b0 b1 b2, .int .i64 s, .slice n0 n1 n2, .slice gx0 gx1 gx2, .slice gy0 gy1 gy2, .bool false, .func (.func 98) #[.agg #[.slice p0 p1 p2, .slice b0 b1 b2]] #[]] 57)) = w2 at *
  have C := has_v n0 gx0 gy0 n1 n2 gx1 gx2 gy1 gy2 (.slice p0 p1 p2) (.slice b0 b1 b2) (.func (.func 98) #[.agg #[.slice p0 p1 p2, .slice b0 b1 b2]] #[]) _ _ s p b U V w2 Hs.out ⟨_, _, _, rfl⟩ Hp (HG.out.1.below HG2.out.bel (Nat.le_refl _)) (HG.out.2.below HG2.out.bel (Nat.le_refl _)) (HN.out.1.1.below HF2.out.bel (Nat.le_refl _)) (HN.out.2.1.below HF2.out.bel (Nat.le_refl _)) jnf
  rw [ho] at C
  refine C.mono ?_
  clear C
  rintro e w3 ⟨rfl, hB⟩
  have HF3 : Hid (Fm _ _ _ _ _) := HF2.out.below hB
  have HG3 : Hid (Fm _ _ _ _ _) := HG2.out.below hB
  clear hB HF2 HG2
  have k1 : w3.cell? ⟨w.heap.size, 1, none⟩ = some (.slice v0 v1 v2) := HF3.out.cell 0 1 (Nat.le_of_ble_eq_true rfl) (Nat.le_of_ble_eq_true rfl)
  have k2 : w3.cell? ⟨w1.heap.size, 0, none⟩ = some (.slice p0 p1 p2) := HG3.out.cell 0 0 (Nat.le_of_ble_eq_true rfl) (Nat.le_of_ble_eq_true rfl)
  go_wp2_with fail
  clear k1 k2
  have C := msub_v (.slice none 0 0) (.slice v0 v1 v2) (.slice p0 p1 p2) 0 V p w3 (Nk.none _ 384).1 (HN.out.2.1.below HF3.out.bel (Nat.le_refl _)) (HG.out.1.1.below HG3.out.bel (Nat.le_refl _))
  rw [rcode_fine (A := 0) (B := V) (k := 384) (m := 384) Hp.out.1 Hp.out.lt4 (Nk.none w 384).2 HN.out.2.2 (by decide) (by decide)] at C
  refine C.mono ?_
  clear C
  rintro e w4 hAns
  obtain ⟨r, rfl, h⟩ : ∃ r, e = .returned (.tuple #[r, .int .i64 0]) ∧ Re w3 w4 r (fS p 0 V) := by
    rcases hAns with ⟨h, _⟩ | ⟨_, r, h1, h2⟩
    · exact absurd rfl h
    · exact ⟨r, h1, h2⟩
  clear hAns
  have HF4 : Hid (Fm _ _ _ _ _) := HF3.out.step ⟨h, Hp.out.lt (fS_lt Hp.out 0 V)⟩
  obtain ⟨r0, r1, r2, rfl⟩ := h.nu.shape
  clear h HF3
  go_wp2_with fail
  have HF4d : Hid (Fm _ _ _ _ _) := HF4.out.drew
  refine wp_region_K 7 (fun (w' : World) => w'.cell? ⟨w.heap.size, 0, none⟩ = some (.slice u0 u1 u2) ∧ w'.cell? ⟨w.heap.size, 2, none⟩ = some (.bool jnf)) (by kernel_rfl) ?_
  have hHeld : ((fun (w' : World) => w'.cell? ⟨w.heap.size, 0, none⟩ = some (.slice u0 u1 u2) ∧ w'.cell? ⟨w.heap.size, 2, none⟩ = some (.bool jnf))) (World.drew _) := ⟨HF4d.out.cell 0 0 (Nat.le_of_ble_eq_true rfl) (Nat.le_of_ble_eq_true rfl), HF4d.out.cell 0 2 (Nat.le_of_ble_eq_true rfl) (Nat.le_of_ble_eq_true rfl)⟩
  refine wpAnyK_take0 0 (v := ?v46) rfl (by kernel_rfl) (fun _ _ _ h => h) (Or.inl ⟨by rfl, ?hy46⟩) (fun _ => hHeld) ?_
  case hy46 => (intro w hSw; go_simp; try with_reducible rfl)
  try simp only [Act.put, List.setIfInBounds_toArray, List.set_cons_zero, List.set_cons_succ]
  refine wpAnyK_take 1 [2, 6, 7] (v := ?v47) rfl (by kernel_rfl) (fun _ _ _ h => h) (Or.inl ⟨by rfl, ?hy47⟩) hHeld ?_
  case hy47 => (intro w hSw; (try dsimp only at hSw); go_simp; try with_reducible rfl)
  try simp only [Act.put, List.setIfInBounds_toArray, List.set_cons_zero, List.set_cons_succ]
  refine wpAnyK_take0 3 (v := ?v48) rfl (by kernel_rfl) (fun _ _ _ h => h) (Or.inl ⟨by rfl, ?hy48⟩) (fun _ => hHeld) ?_
  case hy48 => (intro w hSw; go_simp; try with_reducible rfl)
  try simp only [Act.put, List.setIfInBounds_toArray, List.set_cons_zero, List.set_cons_succ]
  refine wpAnyK_take0 4 (v := ?v49) rfl (by kernel_rfl) (fun _ _ _ h => h) (Or.inl ⟨by rfl, ?hy49⟩) (fun _ => hHeld) ?_
  case hy49 => (intro w hSw; go_simp; try with_reducible rfl)
  try simp only [Act.put, List.setIfInBounds_toArray, List.set_cons_zero, List.set_cons_succ]
  refine wpAnyK_take 5 [6, 7] (v := ?v50) rfl (by kernel_rfl) (fun _ _ _ h => h) (Or.inl ⟨by rfl, ?hy50⟩) hHeld ?_
  case hy50 => (intro w hSw; (try dsimp only at hSw); go_simp; try with_reducible rfl)
  try simp only [Act.put, List.setIfInBounds_toArray, List.set_cons_zero, List.set_cons_succ]
  refine wpAnyK_step 2 rfl (by kernel_rfl) (fun K hK => ?_)
  go_simp
  refine (proper11_v _ U 384 _ (HN.out.1.below HF4d.out.bel (Nat.le_refl _))).mono ?_
  rintro e w5 ⟨q, rfl, h⟩
  have HF5 : Hid (Fm _ _ _ _ _) := HF4d.out.step h
  obtain ⟨q0, q1, q2, rfl⟩ := h.sl
  clear h
  try dsimp only
  refine (fun hHeld => hK.out _ _ (fun _ => hHeld) ?_) ⟨HF5.out.cell 0 0 (Nat.le_of_ble_eq_true rfl) (Nat.le_of_ble_eq_true rfl), HF5.out.cell 0 2 (Nat.le_of_ble_eq_true rfl) (Nat.le_of_ble_eq_true rfl)⟩
  clear hK K
  try simp only [Act.put, List.setIfInBounds_toArray, List.set_cons_zero, List.set_cons_succ]
  have c0 : w5.cell? ⟨w.heap.size + 1, 0, none⟩ = some (.slice none 0 0) := HF5.out.cell 1 0 (Nat.le_of_ble_eq_true rfl) (Nat.le_of_ble_eq_true rfl)
  have c1 : w5.cell? ⟨w.heap.size + 1, 1, none⟩ = some (.slice none 0 0) := HF5.out.cell 1 1 (Nat.le_of_ble_eq_true rfl) (Nat.le_of_ble_eq_true rfl)
  have c2 : w5.cell? ⟨w.heap.size + 1, 2, none⟩ = some (.bool false) := HF5.out.cell 1 2 (Nat.le_of_ble_eq_true rfl) (Nat.le_of_ble_eq_true rfl)
  have f0 : w5.frozen? ⟨w.heap.size + 1, 0, none⟩ = false := HF5.out.frozen 1 0 (Nat.le_of_ble_eq_true rfl)
  have f1 : w5.frozen? ⟨w.heap.size + 1, 1, none⟩ = false := HF5.out.frozen 1 1 (Nat.le_of_ble_eq_true rfl)
  have f2 : w5.frozen? ⟨w.heap.size + 1, 2, none⟩ = false := HF5.out.frozen 1 2 (Nat.le_of_ble_eq_true rfl)
  refine wpAnyK_take0 6 (v := ?v53) rfl (by kernel_rfl) (fun _ _ _ h => h) (Or.inl ⟨by rfl, ?hy53⟩) (fun _ => hHeld) ?_
  case hy53 => (intro w hSw; go_simp; try with_reducible rfl)
  try simp only [Act.put, List.setIfInBounds_toArray, List.set_cons_zero, List.set_cons_succ]
  refine wpAnyK_step 7 rfl (by kernel_rfl) (fun K hK => ?_)
  go_simp
  refine hK.out _ _ ?hk54 ?_
  case hk54 => exact (fun h => nomatch (h.symm.trans (show _ = true by kernel_rfl)))
  clear hK K
  try simp only [Act.put, List.setIfInBounds_toArray, List.set_cons_zero, List.set_cons_succ]
  refine wpAnyK_take0 8 (v := ?v55) rfl (by kernel_rfl) (fun _ _ _ h => h) (Or.inl ⟨by rfl, ?hy55⟩) (fun h => nomatch (h.symm.trans (show _ = true by kernel_rfl))) ?_
  case hy55 => (intro w hSw; go_simp; try with_reducible rfl)
  try simp only [Act.put, List.setIfInBounds_toArray, List.set_cons_zero, List.set_cons_succ]
  refine wpAnyK_done (by kernel_rfl) ?_ _
  go_wp2
  (try simp only [Exit.inBlock, Exit.then])
  have hb := (((But.refl w5 (w.heap.size + 1)).set 0 (.slice q0 q1 q2)).set 1 (.slice r0 r1 r2)).set 2 (.bool jnf)
  refine bodyPost_ret (v := .tuple #[.agg #[.slice q0 q1 q2, .slice r0 r1 r2, .bool jnf], .int .i64 0]) ?_ rfl ⟨_, _, rfl, HF5.out.out 1 (by simp) hb 0 (by simp), HF5.out.out 1 (by simp) hb 1 (by simp), HF5.out.apt 0 1 (by simp) (by simp) (by omega), HF5.out.outB 1 (by simp) hb⟩
  rw [results_cell_tmp rfl]; go_simp
set_option maxHeartbeats 8000000 in
theorem neg_bad {c s : Int} {p b n gx gy : Nat} (hk : Kv c p b n gx gy s) (u v : Value) (U V : Nat) (jnf : Bool) (w : World) (hu : Nu w u U) (hv : Nu w v V) (ho : onB p b U V jnf = false) :
    Calls Tryz.prog 22 #[.int .i64 c, .agg #[u, v, .bool jnf]] w fun e w' => e = .returned (.tuple #[.agg #[.slice none 0 0, .slice none 0 0, .bool false], .int .i64 93]) ∧ Below w.heap.size w w' := by
  obtain ⟨u0, u1, u2, rfl⟩ := hu.shape
  obtain ⟨v0, v1, v2, rfl⟩ := hv.shape
  have HN : Hid (Nu w (.slice u0 u1 u2) U ∧ Nu w (.slice v0 v1 v2) V) := ⟨hu, hv⟩
  have HF0 : Hid (Fm w ((w.alloc (.cells #[.slice u0 u1 u2, .slice v0 v1 v2, .bool jnf] 26)).alloc (.cells #[.slice none 0 0, .slice none 0 0, .bool false] 26)) [(26, [.slice u0 u1 u2, .slice v0 v1 v2, .bool jnf]), (26, [.slice none 0 0, .slice none 0 0, .bool false])] [] []) := (((Fm.nil (w := w) (A := []) ar_nil).push (by simp) 26 [.slice u0 u1 u2, .slice v0 v1 v2, .bool jnf]).push (by simp) 26 [.slice none 0 0, .slice none 0 0, .bool false])
  have Hs : Hid (s ≠ 0) := (by rcases hk.s0 with h | h <;> omega : s ≠ 0)
  have Hp : Hid (Pm p) := hk.pm
  have hsf : ∀ (w : World) (a : Addr) (fn : Fn) (x y : Array Value), Sem.run Tryz.prog (store a (.func fn x y)) w = _ := fun w a fn x y => run_store Tryz.prog w a (.func fn x y) _ rfl
  have hsn : ∀ (w : World) (a : Addr), Sem.run Tryz.prog (store a .nilFunc) w = _ := fun w a => run_store Tryz.prog w a .nilFunc _ rfl
  clear hu hv
  go_enter Tryz.func22, Tryz.ntmps22
  go_wp2_with fail
  generalize ((w.alloc (.cells #[.slice u0 u1 u2, .slice v0 v1 v2, .bool jnf] 26)).alloc (.cells #[.slice none 0 0, .slice none 0 0, .bool false] 26)) = w0 at *
  refine (of_kv hk _).mono ?_
  rintro e w1 ⟨g, rfl, ⟨pv, bv, nv, xv, yv, rfl, m1, m2, m3, m4, m5, ma⟩, hB⟩
  obtain ⟨n0, n1, n2, rfl⟩ := m3.nk.sl
  obtain ⟨gx0, gx1, gx2, rfl⟩ := m4.nk.sl
  obtain ⟨gy0, gy1, gy2, rfl⟩ := m5.nk.sl
  obtain ⟨p0, p1, p2, rfl⟩ := m1.nk.sl
  obtain ⟨b0, b1, b2, rfl⟩ := m2.nk.sl
  have HF1 : Hid (Fm _ _ _ _ _) := HF0.out.below hB
  have HG : Hid (Nk w1 (.slice p0 p1 p2) p 384 ∧ Nk w1 (.slice b0 b1 b2) b 384) := ⟨m1.nk, m2.nk⟩
  clear m1 m2 m3 m4 m5 ma hB HF0
  have a0' : ∀ o, (w1.alloc o).cell? ⟨w.heap.size, 0, none⟩ = some (.slice u0 u1 u2) := fun o => (World.cell?_alloc_lt _ _ _ (HF1.out.bx 0 (Nat.le_of_ble_eq_true rfl)).lt).trans (HF1.out.cell 0 0 (Nat.le_of_ble_eq_true rfl) (Nat.le_of_ble_eq_true rfl))
  have a1' : ∀ o, (w1.alloc o).cell? ⟨w.heap.size, 1, none⟩ = some (.slice v0 v1 v2) := fun o => (World.cell?_alloc_lt _ _ _ (HF1.out.bx 0 (Nat.le_of_ble_eq_true rfl)).lt).trans (HF1.out.cell 0 1 (Nat.le_of_ble_eq_true rfl) (Nat.le_of_ble_eq_true rfl))
  have a2' : ∀ o, (w1.alloc o).cell? ⟨w.heap.size, 2, none⟩ = some (.bool jnf) := fun o => (World.cell?_alloc_lt _ _ _ (HF1.out.bx 0 (Nat.le_of_ble_eq_true rfl)).lt).trans (HF1.out.cell 0 2 (Nat.le_of_ble_eq_true rfl) (Nat.le_of_ble_eq_true rfl))
  go_wp2_with fail
  clear a0' a1' a2'
  have HG2 : Hid (Fm w1 (w1.alloc (.cells #[.slice p0 p1 p2, .slice b0 b1 b2, .int .i64 s, .slice n0 n1 n2, .slice gx0 gx1 gx2, .slice gy0 gy1 gy2, .bool false, .func (.func 98) #[.agg #[.slice p0 p1 p2, .slice b0 b1 b2]] #[]] 57)) [(57, [.slice p0 p1 p2, .slice b0 b1 b2, .int .i64 s, .slice n0 n1 n2, .slice gx0 gx1 gx2, .slice gy0 gy1 gy2, .bool false, .func (.func 98) #[.agg #[.slice p0 p1 p2, .slice b0 b1 b2]] #[]])] [] []) := ((Fm.nil (w := w1) (A := []) ar_nil).push (by simp) 57 [.slice p0 p1 p2, .slice b0 b1 b2, .int .i64 s, .slice n0 n1 n2, .slice gx0 gx1 gx2, .slice gy0 gy1 gy2, .bool false, .func (.func 98) #[.agg #[.slice p0 p1 p2, .slice b0 b1 b2]] #[]])
  have HF2 : Hid (Fm _ _ _ _ _) := HF1.out.below HG2.out.bel
  generalize (w1.alloc (.cells #[.slice p0 p1 p2, .slice b0 b1 b2, .int .i64 s, .slice n0 n1 n2, .slice gx0 gx1 gx2, .slice gy0 gy1 gy2, .bool false, .func (.func 98) #[.agg #[.slice p0 p1 p2, .slice b0 b1 b2]] #[]] 57)) = w2 at *
  have C := has_v n0 gx0 gy0 n1 n2 gx1 gx2 gy1 gy2 (.slice p0 p1 p2) (.slice b0 b1 b2) (.func (.func 98) #[.agg #[.slice p0 p1 p2, .slice b0 b1 b2]] #[]) _ _ s p b U V w2 Hs.out ⟨_, _, _, rfl⟩ Hp (HG.out.1.below HG2.out.bel (Nat.le_refl _)) (HG.out.2.below HG2.out.bel (Nat.le_refl _)) (HN.out.1.below HF2.out.bel (Nat.le_refl _)) (HN.out.2.below HF2.out.bel (Nat.le_refl _)) jnf
  rw [ho] at C
  refine C.mono ?_
  clear C
  rintro e w3 ⟨rfl, hB⟩
  have HF3 : Hid (Fm _ _ _ _ _) := HF2.out.below hB
  have HG3 : Hid (Fm _ _ _ _ _) := HG2.out.below hB
  clear hB HF2 HG2
  have c0 : w3.cell? ⟨w.heap.size + 1, 0, none⟩ = some (.slice none 0 0) := HF3.out.cell 1 0 (Nat.le_of_ble_eq_true rfl) (Nat.le_of_ble_eq_true rfl)
  have c1 : w3.cell? ⟨w.heap.size + 1, 1, none⟩ = some (.slice none 0 0) := HF3.out.cell 1 1 (Nat.le_of_ble_eq_true rfl) (Nat.le_of_ble_eq_true rfl)
  have c2 : w3.cell? ⟨w.heap.size + 1, 2, none⟩ = some (.bool false) := HF3.out.cell 1 2 (Nat.le_of_ble_eq_true rfl) (Nat.le_of_ble_eq_true rfl)
  have f0 : w3.frozen? ⟨w.heap.size + 1, 0, none⟩ = false := HF3.out.frozen 1 0 (Nat.le_of_ble_eq_true rfl)
  have f1 : w3.frozen? ⟨w.heap.size + 1, 1, none⟩ = false := HF3.out.frozen 1 1 (Nat.le_of_ble_eq_true rfl)
  have f2 : w3.frozen? ⟨w.heap.size + 1, 2, none⟩ = false := HF3.out.frozen 1 2 (Nat.le_of_ble_eq_true rfl)
  go_wp2
  (try simp only [Exit.inBlock, Exit.then])
  have hb := (((But.refl w3 (w.heap.size + 1)).set 0 (.slice none 0 0)).set 1 (.slice none 0 0)).set 2 (.bool false)
  refine bodyPost_ret (v := .tuple #[.agg #[.slice none 0 0, .slice none 0 0, .bool false], .int .i64 93]) ?_ rfl ⟨rfl, HF3.out.outB 1 (by simp) hb⟩
  rw [results_cell_tmp rfl]; go_simp
set_option maxHeartbeats 4000000 in
theorem add_none (c : Int) (h1 : c ≠ 1) (h2 : c ≠ 2) (x y u v : Value) (inf jnf : Bool) (w : World) (hx : Sl3 x) (hy : Sl3 y) (hu : Sl3 u) (hv : Sl3 v) :
    Calls Tryz.prog 23 #[.int .i64 c, .agg #[x, y, .bool inf], .agg #[u, v, .bool jnf]] w fun e w' => e = .returned (.tuple #[.agg #[.slice none 0 0, .slice none 0 0, .bool false], .int .i64 93]) ∧ Below w.heap.size w w' := by
  obtain ⟨x0, x1, x2, rfl⟩ := hx
  obtain ⟨y0, y1, y2, rfl⟩ := hy
  obtain ⟨u0, u1, u2, rfl⟩ := hu
  obtain ⟨v0, v1, v2, rfl⟩ := hv
  have HF0 : Hid (Fm w (((w.alloc (.cells #[.slice x0 x1 x2, .slice y0 y1 y2, .bool inf] 26)).alloc (.cells #[.slice u0 u1 u2, .slice v0 v1 v2, .bool jnf] 26)).alloc (.cells #[.slice none 0 0, .slice none 0 0, .bool false] 26)) [(26, [.slice x0 x1 x2, .slice y0 y1 y2, .bool inf]), (26, [.slice u0 u1 u2, .slice v0 v1 v2, .bool jnf]), (26, [.slice none 0 0, .slice none 0 0, .bool false])] [] []) := ((((Fm.nil (w := w) (A := []) ar_nil).push (by simp) 26 [.slice x0 x1 x2, .slice y0 y1 y2, .bool inf]).push (by simp) 26 [.slice u0 u1 u2, .slice v0 v1 v2, .bool jnf]).push (by simp) 26 [.slice none 0 0, .slice none 0 0, .bool false])
  have hsn : ∀ (w : World) (a : Addr), Sem.run Tryz.prog (store a .nilFunc) w = _ := fun w a => run_store Tryz.prog w a .nilFunc _ rfl
  go_enter Tryz.func23, Tryz.ntmps23
  go_wp2_with fail
  generalize (((w.alloc (.cells #[.slice x0 x1 x2, .slice y0 y1 y2, .bool inf] 26)).alloc (.cells #[.slice u0 u1 u2, .slice v0 v1 v2, .bool jnf] 26)).alloc (.cells #[.slice none 0 0, .slice none 0 0, .bool false] 26)) = w0 at *
  refine (of_none c _ h1 h2).mono ?_
  rintro e w1 ⟨rfl, hB⟩
  have HF1 : Hid (Fm _ _ _ _ _) := HF0.out.below hB
  clear hB HF0
  have a0 : ∀ o, (w1.alloc o).cell? ⟨w.heap.size, 0, none⟩ = some (.slice x0 x1 x2) := fun o => (World.cell?_alloc_lt _ _ _ (HF1.out.bx 0 (Nat.le_of_ble_eq_true rfl)).lt).trans (HF1.out.cell 0 0 (Nat.le_of_ble_eq_true rfl) (Nat.le_of_ble_eq_true rfl))
  have a1 : ∀ o, (w1.alloc o).cell? ⟨w.heap.size, 1, none⟩ = some (.slice y0 y1 y2) := fun o => (World.cell?_alloc_lt _ _ _ (HF1.out.bx 0 (Nat.le_of_ble_eq_true rfl)).lt).trans (HF1.out.cell 0 1 (Nat.le_of_ble_eq_true rfl) (Nat.le_of_ble_eq_true rfl))
  have a2 : ∀ o, (w1.alloc o).cell? ⟨w.heap.size, 2, none⟩ = some (.bool inf) := fun o => (World.cell?_alloc_lt _ _ _ (HF1.out.bx 0 (Nat.le_of_ble_eq_true rfl)).lt).trans (HF1.out.cell 0 2 (Nat.le_of_ble_eq_true rfl) (Nat.le_of_ble_eq_true rfl))
  go_wp2_with fail
  clear a0 a1 a2
  have HF2 : Hid (Fm w (w1.alloc (.cells #[.slice none 0 0, .slice none 0 0, .int .i64 0, .slice none 0 0, .slice none 0 0, .slice none 0 0, .bool false, .nilFunc] 57)) [(26, [.slice x0 x1 x2, .slice y0 y1 y2, .bool inf]), (26, [.slice u0 u1 u2, .slice v0 v1 v2, .bool jnf]), (26, [.slice none 0 0, .slice none 0 0, .bool false])] [] []) := HF1.out.below (alloc_below _ _)
  generalize (w1.alloc (.cells #[.slice none 0 0, .slice none 0 0, .int .i64 0, .slice none 0 0, .slice none 0 0, .slice none 0 0, .bool false, .nilFunc] 57)) = w2 at *
  refine (has_none _ _ inf _ ⟨_, _, _, rfl⟩ ⟨_, _, _, rfl⟩).mono ?_
  rintro e w3 ⟨rfl, hB⟩
  have HF3 : Hid (Fm _ _ _ _ _) := HF2.out.below hB
  clear hB
  have c0 : w3.cell? ⟨w.heap.size + 2, 0, none⟩ = some (.slice none 0 0) := HF3.out.cell 2 0 (Nat.le_of_ble_eq_true rfl) (Nat.le_of_ble_eq_true rfl)
  have c1 : w3.cell? ⟨w.heap.size + 2, 1, none⟩ = some (.slice none 0 0) := HF3.out.cell 2 1 (Nat.le_of_ble_eq_true rfl) (Nat.le_of_ble_eq_true rfl)
  have c2 : w3.cell? ⟨w.heap.size + 2, 2, none⟩ = some (.bool false) := HF3.out.cell 2 2 (Nat.le_of_ble_eq_true rfl) (Nat.le_of_ble_eq_true rfl)
  have f0 : w3.frozen? ⟨w.heap.size + 2, 0, none⟩ = false := HF3.out.frozen 2 0 (Nat.le_of_ble_eq_true rfl)
  have f1 : w3.frozen? ⟨w.heap.size + 2, 1, none⟩ = false := HF3.out.frozen 2 1 (Nat.le_of_ble_eq_true rfl)
  have f2 : w3.frozen? ⟨w.heap.size + 2, 2, none⟩ = false := HF3.out.frozen 2 2 (Nat.le_of_ble_eq_true rfl)
  go_wp2
  (try simp only [Exit.inBlock, Exit.then])
  have hb := (((But.refl w3 (w.heap.size + 2)).set 0 (.slice none 0 0)).set 1 (.slice none 0 0)).set 2 (.bool false)
  refine bodyPost_ret (v := .tuple #[.agg #[.slice none 0 0, .slice none 0 0, .bool false], .int .i64 93]) ?_ rfl ⟨rfl, HF3.out.outB 2 (by simp) hb⟩
  rw [results_cell_tmp rfl]; go_simp
set_option maxHeartbeats 4000000 in
theorem neg_none (c : Int) (h1 : c ≠ 1) (h2 : c ≠ 2) (x y : Value) (inf : Bool) (w : World) (hx : Sl3 x) (hy : Sl3 y) :
    Calls Tryz.prog 22 #[.int .i64 c, .agg #[x, y, .bool inf]] w fun e w' => e = .returned (.tuple #[.agg #[.slice none 0 0, .slice none 0 0, .bool false], .int .i64 93]) ∧ Below w.heap.size w w' := by
  obtain ⟨x0, x1, x2, rfl⟩ := hx
  obtain ⟨y0, y1, y2, rfl⟩ := hy
  have HF0 : Hid (Fm w ((w.alloc (.cells #[.slice x0 x1 x2, .slice y0 y1 y2, .bool inf] 26)).alloc (.cells #[.slice none 0 0, .slice none 0 0, .bool false] 26)) [(26, [.slice x0 x1 x2, .slice y0 y1 y2, .bool inf]), (26, [.slice none 0 0, .slice none 0 0, .bool false])] [] []) := ((Fm.nil (w := w) (A := []) ar_nil).push (by simp) 26 [.slice x0 x1 x2, .slice y0 y1 y2, .bool inf]).push (by simp) 26 [.slice none 0 0, .slice none 0 0, .bool false]
  have hsn : ∀ (w : World) (a : Addr), Sem.run Tryz.prog (store a .nilFunc) w = _ := fun w a => run_store Tryz.prog w a .nilFunc _ rfl
  go_enter Tryz.func22, Tryz.ntmps22
  go_wp2_with fail
  generalize ((w.alloc (.cells #[.slice x0 x1 x2, .slice y0 y1 y2, .bool inf] 26)).alloc (.cells #[.slice none 0 0, .slice none 0 0, .bool false] 26)) = w0 at *
  refine (of_none c _ h1 h2).mono ?_
  rintro e w1 ⟨rfl, hB⟩
  have HF1 : Hid (Fm _ _ _ _ _) := HF0.out.below hB
  clear hB HF0
  have a0 : ∀ o, (w1.alloc o).cell? ⟨w.heap.size, 0, none⟩ = some (.slice x0 x1 x2) := fun o => (World.cell?_alloc_lt _ _ _ (HF1.out.bx 0 (Nat.le_of_ble_eq_true rfl)).lt).trans (HF1.out.cell 0 0 (Nat.le_of_ble_eq_true rfl) (Nat.le_of_ble_eq_true rfl))
  have a1 : ∀ o, (w1.alloc o).cell? ⟨w.heap.size, 1, none⟩ = some (.slice y0 y1 y2) := fun o => (World.cell?_alloc_lt _ _ _ (HF1.out.bx 0 (Nat.le_of_ble_eq_true rfl)).lt).trans (HF1.out.cell 0 1 (Nat.le_of_ble_eq_true rfl) (Nat.le_of_ble_eq_true rfl))
  have a2 : ∀ o, (w1.alloc o).cell? ⟨w.heap.size, 2, none⟩ = some (.bool inf) := fun o => (World.cell?_alloc_lt _ _ _ (HF1.out.bx 0 (Nat.le_of_ble_eq_true rfl)).lt).trans (HF1.out.cell 0 2 (Nat.le_of_ble_eq_true rfl) (Nat.le_of_ble_eq_true rfl))
  go_wp2_with fail
  clear a0 a1 a2
  have HF2 : Hid (Fm w (w1.alloc (.cells #[.slice none 0 0, .slice none 0 0, .int .i64 0, .slice none 0 0, .slice none 0 0, .slice none 0 0, .bool false, .nilFunc] 57)) [(26, [.slice x0 x1 x2, .slice y0 y1 y2, .bool inf]), (26, [.slice none 0 0, .slice none 0 0, .bool false])] [] []) := HF1.out.below (alloc_below _ _)
  generalize (w1.alloc (.cells #[.slice none 0 0, .slice none 0 0, .int .i64 0, .slice none 0 0, .slice none 0 0, .slice none 0 0, .bool false, .nilFunc] 57)) = w2 at *
  refine (has_none _ _ inf _ ⟨_, _, _, rfl⟩ ⟨_, _, _, rfl⟩).mono ?_
  rintro e w3 ⟨rfl, hB⟩
  have HF3 : Hid (Fm _ _ _ _ _) := HF2.out.below hB
  clear hB
  have c0 : w3.cell? ⟨w.heap.size + 1, 0, none⟩ = some (.slice none 0 0) := HF3.out.cell 1 0 (Nat.le_of_ble_eq_true rfl) (Nat.le_of_ble_eq_true rfl)
  have c1 : w3.cell? ⟨w.heap.size + 1, 1, none⟩ = some (.slice none 0 0) := HF3.out.cell 1 1 (Nat.le_of_ble_eq_true rfl) (Nat.le_of_ble_eq_true rfl)
  have c2 : w3.cell? ⟨w.heap.size + 1, 2, none⟩ = some (.bool false) := HF3.out.cell 1 2 (Nat.le_of_ble_eq_true rfl) (Nat.le_of_ble_eq_true rfl)
  have f0 : w3.frozen? ⟨w.heap.size + 1, 0, none⟩ = false := HF3.out.frozen 1 0 (Nat.le_of_ble_eq_true rfl)
  have f1 : w3.frozen? ⟨w.heap.size + 1, 1, none⟩ = false := HF3.out.frozen 1 1 (Nat.le_of_ble_eq_true rfl)
  have f2 : w3.frozen? ⟨w.heap.size + 1, 2, none⟩ = false := HF3.out.frozen 1 2 (Nat.le_of_ble_eq_true rfl)
  go_wp2
  (try simp only [Exit.inBlock, Exit.then])
  have hb := (((But.refl w3 (w.heap.size + 1)).set 0 (.slice none 0 0)).set 1 (.slice none 0 0)).set 2 (.bool false)
  refine bodyPost_ret (v := .tuple #[.agg #[.slice none 0 0, .slice none 0 0, .bool false], .int .i64 93]) ?_ rfl ⟨rfl, HF3.out.outB 1 (by simp) hb⟩
  rw [results_cell_tmp rfl]; go_simp
end Go.Proofs.YtmngdaolgdhgmaaGreatDoor
