import Derived.Test.YtkfchdmlemcjhaaDoorCZ
import Derived.Test.YtkfchdmlemcjhaaDoorTZ
import Derived.Test.YtkfchdmlemcjhaaDoorOrk
namespace Go.Proofs.YtkfchdmlemcjhaaDoor
open Go.RowKit Go.Shelf

theorem TR.drewN {w : World} {v : Value} {l : List (List UInt8)} {ao : Option Addr} {cap : Nat} (h : TR w v l ao cap) (n : Nat) : TR (w.drewN n) v l ao cap := ⟨h.val, h.cap, h.cell⟩
theorem takeT {l : List (List UInt8)} {k : Nat} (hk : k < l.length) : l.take (k + 1) = l.take k ++ [l.getD k []] := by
  rw [List.take_add_one, List.getElem?_eq_getElem hk]
  simp [List.getD_eq_getElem?_getD, hk]

set_option maxRecDepth 100000 in
set_option maxHeartbeats 4000000 in
theorem stexts_any (l1 l2 : List (List UInt8)) (a1 a2 : Option Addr) (c1 c2 : Nat) (w : World) (h1 : TR w (.slice a1 l1.length c1) l1 a1 c1) (h2 : TR w (.slice a2 l2.length c2) l2 a2 c2) (hl : l1.length ≤ 1000000000000000000) :
    Calls Tryd.prog 30 #[.slice a1 l1.length c1, .slice a2 l2.length c2] w fun e w' => e = .returned (.bool (decide (l1 = l2))) ∧ ∃ q, w' = w.drewN q := by
  by_cases he : l1.length = l2.length
  · have HN1 : Hid (∀ q, TR (w.drewN q) (.slice a1 l1.length c1) l1 a1 c1) := fun q => h1.drewN q
    have HN2 : Hid (∀ q, TR (w.drewN q) (.slice a2 l2.length c2) l2 a2 c2) := fun q => h2.drewN q
    have HE : Hid (l1.length = l2.length) := he
    have qe : ((l1.length : Int) != (l2.length : Int)) = false := by simp; omega
    clear h1 h2 he
    go_enter Tryd.func30, Tryd.ntmps30
    go_wp2
    go_loopw [5] (fun s5 wx => ∃ k q : Nat, s5 = .int .i64 k ∧ k ≤ l1.length ∧ wx = w.drewN q ∧ l1.take k = l2.take k) (fun s _ => l1.length - (intOf s).toNat)
    case atStart => exact ⟨0, 0, rfl, Nat.zero_le _, rfl, rfl⟩
    case round =>
      obtain ⟨k, q, rfl, hk, rfl, htk⟩ := hrel
      have HT : Hid (l1.take k = l2.take k) := htk
      clear htk
      by_cases hlt : k < l1.length
      · have q0 : decide ((k : Int) < (l1.length : Int)) = true := decide_eq_true (by omega)
        have hlt2 : k < l2.length := by have := HE.out; omega
        obtain ⟨g1, o1, rfl, k0⟩ := (HN1.out q).at hlt
        obtain ⟨g2, o2, rfl, j0⟩ := (HN2.out q).at hlt2
        obtain ⟨n1, hn1⟩ : ∃ n, l1.getD k [] = n := ⟨_, rfl⟩
        obtain ⟨n2, hn2⟩ : ∃ n, l2.getD k [] = n := ⟨_, rfl⟩
        rw [hn1] at k0
        rw [hn2] at j0
        have HS : Hid (n1 = n2 → l1.take (k + 1) = l2.take (k + 1)) := fun e => by
          rw [takeT hlt, takeT hlt2, HT.out, hn1, hn2, e]
        have HX : Hid (n1 ≠ n2 → l1 ≠ l2) := fun hne e => hne (by rw [← hn1, ← hn2, e])
        clear hn1 hn2
        by_cases heq : n1 = n2
        · subst heq
          have HS3 : Hid (l1.take (k + 1) = l2.take (k + 1)) := HS.out rfl
          have qn : (n1 != n1) = false := by simp
          have qn2 : (n1 == n1) = true := by simp
          clear HS HX
          go_wp2
          refine wp_region_K 8 (fun (w' : World) => w'.cell? ⟨g1, o1 + k, none⟩ = some (.string ⟨n1.toArray⟩) ∧ w'.cell? ⟨g2, o2 + k, none⟩ = some (.string ⟨n1.toArray⟩)) (by kernel_rfl) ?_
          have hHeld : ((fun (w' : World) => w'.cell? ⟨g1, o1 + k, none⟩ = some (.string ⟨n1.toArray⟩) ∧ w'.cell? ⟨g2, o2 + k, none⟩ = some (.string ⟨n1.toArray⟩))) (World.drew _) := ⟨k0, j0⟩
          refine wpAnyK_take0 0 (v := ?v10) rfl (by kernel_rfl) (fun _ _ _ h => h) (Or.inl ⟨by rfl, ?hy10⟩) (fun _ => hHeld) ?_
          case hy10 => (intro w hSw; go_simp; try with_reducible rfl)
          try simp only [Act.put, List.setIfInBounds_toArray, List.set_cons_zero, List.set_cons_succ]
          refine wpAnyK_take0 1 (v := ?v11) rfl (by kernel_rfl) (fun _ _ _ h => h) (Or.inl ⟨by rfl, ?hy11⟩) (fun _ => hHeld) ?_
          case hy11 => (intro w hSw; go_simp; try with_reducible rfl)
          try simp only [Act.put, List.setIfInBounds_toArray, List.set_cons_zero, List.set_cons_succ]
          refine wpAnyK_take0 2 (v := ?v12) rfl (by kernel_rfl) (fun _ _ _ h => h) (Or.inl ⟨by rfl, ?hy12⟩) (fun _ => hHeld) ?_
          case hy12 => (intro w hSw; go_simp; try with_reducible rfl)
          try simp only [Act.put, List.setIfInBounds_toArray, List.set_cons_zero, List.set_cons_succ]
          refine wpAnyK_take 3 [8] (v := ?v13) rfl (by kernel_rfl) (fun _ _ _ h => h) (Or.inl ⟨by rfl, ?hy13⟩) hHeld ?_
          case hy13 => (intro w hSw; (try dsimp only at hSw); go_simp; try with_reducible rfl)
          try simp only [Act.put, List.setIfInBounds_toArray, List.set_cons_zero, List.set_cons_succ]
          refine wpAnyK_take0 4 (v := ?v14) rfl (by kernel_rfl) (fun _ _ _ h => h) (Or.inl ⟨by rfl, ?hy14⟩) (fun _ => hHeld) ?_
          case hy14 => (intro w hSw; go_simp; try with_reducible rfl)
          try simp only [Act.put, List.setIfInBounds_toArray, List.set_cons_zero, List.set_cons_succ]
          refine wpAnyK_take0 5 (v := ?v15) rfl (by kernel_rfl) (fun _ _ _ h => h) (Or.inl ⟨by rfl, ?hy15⟩) (fun _ => hHeld) ?_
          case hy15 => (intro w hSw; go_simp; try with_reducible rfl)
          try simp only [Act.put, List.setIfInBounds_toArray, List.set_cons_zero, List.set_cons_succ]
          refine wpAnyK_take0 6 (v := ?v16) rfl (by kernel_rfl) (fun _ _ _ h => h) (Or.inl ⟨by rfl, ?hy16⟩) (fun _ => hHeld) ?_
          case hy16 => (intro w hSw; go_simp; try with_reducible rfl)
          try simp only [Act.put, List.setIfInBounds_toArray, List.set_cons_zero, List.set_cons_succ]
          refine wpAnyK_take 7 [8] (v := ?v17) rfl (by kernel_rfl) (fun _ _ _ h => h) (Or.inl ⟨by rfl, ?hy17⟩) hHeld ?_
          case hy17 => (intro w hSw; (try dsimp only at hSw); go_simp; try with_reducible rfl)
          try simp only [Act.put, List.setIfInBounds_toArray, List.set_cons_zero, List.set_cons_succ]
          refine wpAnyK_step 8 rfl (by kernel_rfl) (fun K hK => ?_)
          go_simp
          refine hK.out _ _ ?hk18 ?_
          case hk18 => exact (fun h => nomatch (h.symm.trans (show _ = true by kernel_rfl)))
          clear hK K
          try simp only [Act.put, List.setIfInBounds_toArray, List.set_cons_zero, List.set_cons_succ]
          refine wpAnyK_done (by kernel_rfl) ?_ _
          clear hHeld
          go_wp2
          go_roundw
          case rel => exact ⟨k + 1, _, by go_num, by omega, rfl, HS3.out⟩
          case measure => simp [intOf]; omega
        · have HX3 : Hid (l1 ≠ l2) := HX.out heq
          have qn : (n1 != n2) = true := by simpa using heq
          have qn2 : (n1 == n2) = false := by simpa using heq
          clear HS HX heq
          go_wp2
          refine wp_region_K 8 (fun (w' : World) => w'.cell? ⟨g1, o1 + k, none⟩ = some (.string ⟨n1.toArray⟩) ∧ w'.cell? ⟨g2, o2 + k, none⟩ = some (.string ⟨n2.toArray⟩)) (by kernel_rfl) ?_
          have hHeld : ((fun (w' : World) => w'.cell? ⟨g1, o1 + k, none⟩ = some (.string ⟨n1.toArray⟩) ∧ w'.cell? ⟨g2, o2 + k, none⟩ = some (.string ⟨n2.toArray⟩))) (World.drew _) := ⟨k0, j0⟩
          refine wpAnyK_take0 0 (v := ?v1) rfl (by kernel_rfl) (fun _ _ _ h => h) (Or.inl ⟨by rfl, ?hy1⟩) (fun _ => hHeld) ?_
          case hy1 => (intro w hSw; go_simp; try with_reducible rfl)
          try simp only [Act.put, List.setIfInBounds_toArray, List.set_cons_zero, List.set_cons_succ]
          refine wpAnyK_take0 1 (v := ?v2) rfl (by kernel_rfl) (fun _ _ _ h => h) (Or.inl ⟨by rfl, ?hy2⟩) (fun _ => hHeld) ?_
          case hy2 => (intro w hSw; go_simp; try with_reducible rfl)
          try simp only [Act.put, List.setIfInBounds_toArray, List.set_cons_zero, List.set_cons_succ]
          refine wpAnyK_take0 2 (v := ?v3) rfl (by kernel_rfl) (fun _ _ _ h => h) (Or.inl ⟨by rfl, ?hy3⟩) (fun _ => hHeld) ?_
          case hy3 => (intro w hSw; go_simp; try with_reducible rfl)
          try simp only [Act.put, List.setIfInBounds_toArray, List.set_cons_zero, List.set_cons_succ]
          refine wpAnyK_take 3 [8] (v := ?v4) rfl (by kernel_rfl) (fun _ _ _ h => h) (Or.inl ⟨by rfl, ?hy4⟩) hHeld ?_
          case hy4 => (intro w hSw; (try dsimp only at hSw); go_simp; try with_reducible rfl)
          try simp only [Act.put, List.setIfInBounds_toArray, List.set_cons_zero, List.set_cons_succ]
          refine wpAnyK_take0 4 (v := ?v5) rfl (by kernel_rfl) (fun _ _ _ h => h) (Or.inl ⟨by rfl, ?hy5⟩) (fun _ => hHeld) ?_
          case hy5 => (intro w hSw; go_simp; try with_reducible rfl)
          try simp only [Act.put, List.setIfInBounds_toArray, List.set_cons_zero, List.set_cons_succ]
          refine wpAnyK_take0 5 (v := ?v6) rfl (by kernel_rfl) (fun _ _ _ h => h) (Or.inl ⟨by rfl, ?hy6⟩) (fun _ => hHeld) ?_
          case hy6 => (intro w hSw; go_simp; try with_reducible rfl)
          try simp only [Act.put, List.setIfInBounds_toArray, List.set_cons_zero, List.set_cons_succ]
          refine wpAnyK_take0 6 (v := ?v7) rfl (by kernel_rfl) (fun _ _ _ h => h) (Or.inl ⟨by rfl, ?hy7⟩) (fun _ => hHeld) ?_
          case hy7 => (intro w hSw; go_simp; try with_reducible rfl)
          try simp only [Act.put, List.setIfInBounds_toArray, List.set_cons_zero, List.set_cons_succ]
          refine wpAnyK_take 7 [8] (v := ?v8) rfl (by kernel_rfl) (fun _ _ _ h => h) (Or.inl ⟨by rfl, ?hy8⟩) hHeld ?_
          case hy8 => (intro w hSw; (try dsimp only at hSw); go_simp; try with_reducible rfl)
          try simp only [Act.put, List.setIfInBounds_toArray, List.set_cons_zero, List.set_cons_succ]
          refine wpAnyK_step 8 rfl (by kernel_rfl) (fun K hK => ?_)
          go_simp
          refine hK.out _ _ ?hk9 ?_
          case hk9 => exact (fun h => nomatch (h.symm.trans (show _ = true by kernel_rfl)))
          clear hK K
          try simp only [Act.put, List.setIfInBounds_toArray, List.set_cons_zero, List.set_cons_succ]
          refine wpAnyK_done (by kernel_rfl) ?_ _
          clear hHeld
          go_wp2
          go_ret
          refine ⟨?_, _, rfl⟩
          rw [decide_eq_false HX3.out]; rfl
      · have q0 : decide ((k : Int) < (l1.length : Int)) = false := decide_eq_false (by omega)
        have HX : Hid (l1 = l2) := by
          show _ = _
          have := HT.out
          rwa [List.take_of_length_le (by omega), List.take_of_length_le (by have := HE.out; omega)] at this
        clear HT
        go_wp2
        go_ret
        refine ⟨?_, q, rfl⟩
        rw [decide_eq_true HX.out]; rfl
  · have qe : ((l1.length : Int) != (l2.length : Int)) = true := by simp; omega
    have HX : Hid (l1 ≠ l2) := fun e => he (by rw [e])
    clear h1 h2 he
    go_enter Tryd.func30, Tryd.ntmps30
    go_wp2
    go_ret
    refine ⟨?_, 0, rfl⟩
    rw [decide_eq_false HX.out]; rfl

theorem takeN9 {l : List Nd} {k : Nat} (hk : k < l.length) : l.take (k + 1) = l.take k ++ [l.getD k (nd0 0)] := by
  rw [List.take_add_one, List.getElem?_eq_getElem hk]
  simp [List.getD_eq_getElem?_getD, hk]
set_option maxRecDepth 100000 in
theorem run_nodes_ne9 (w : World) (n m : Nd) : (binOp .neq 36 (.agg #[.int .i64 n.kind, .string ⟨n.key.toArray⟩, .string ⟨n.text.toArray⟩, .bool n.whole, .int .i64 n.int, .int .i64 n.kids]) (.agg #[.int .i64 m.kind, .string ⟨m.key.toArray⟩, .string ⟨m.text.toArray⟩, .bool m.whole, .int .i64 m.int, .int .i64 m.kids])).run Tryd.prog w = .ok (.bool (!decide (n = m))) w := by
  have h := run_nodes w n m
  rw [run_eql_struct] at h
  rw [run_neq_struct]
  revert h
  generalize (Op.equalIn 10000 36 _ _).run Tryd.prog w = r
  intro h
  cases r with
  | ok b w' =>
    simp only [Result.andThen_ok] at h ⊢
    cases h
    rfl
  | _ => cases h

set_option maxRecDepth 100000 in
set_option maxHeartbeats 4000000 in
theorem snodes_any (v1 v2 : Value) (l1 l2 : List Nd) (a1 a2 : Option Addr) (c1 c2 : Nat) (w : World) (h1 : NR w v1 l1 a1 c1) (h2 : NR w v2 l2 a2 c2) (hl : l1.length ≤ 1000000000) :
    Calls Tryd.prog 31 #[v1, v2] w fun e w' => e = .returned (.bool (decide (l1 = l2))) ∧ ∃ q, w' = w.drewN q := by
  obtain ⟨rfl, _, _⟩ := id h1
  obtain ⟨rfl, _, _⟩ := id h2
  by_cases he : l1.length = l2.length
  · have HN1 : Hid (∀ q, NR (w.drewN q) (.slice a1 l1.length c1) l1 a1 c1) := fun q => h1.drewN q
    have HN2 : Hid (∀ q, NR (w.drewN q) (.slice a2 l2.length c2) l2 a2 c2) := fun q => h2.drewN q
    have HE : Hid (l1.length = l2.length) := he
    have qe : ((l1.length : Int) != (l2.length : Int)) = false := by simp; omega
    have hrn := run_nodes_ne9
    clear h1 h2 he
    go_enter Tryd.func31, Tryd.ntmps31
    go_wp2
    go_loopw [5] (fun s5 wx => ∃ k q : Nat, s5 = .int .i64 k ∧ k ≤ l1.length ∧ wx = w.drewN q ∧ l1.take k = l2.take k) (fun s _ => l1.length - (intOf s).toNat)
    case atStart => exact ⟨0, 0, rfl, Nat.zero_le _, rfl, rfl⟩
    case round =>
      obtain ⟨k, q, rfl, hk, rfl, htk⟩ := hrel
      have HT : Hid (l1.take k = l2.take k) := htk
      clear htk
      by_cases hlt : k < l1.length
      · have q0 : decide ((k : Int) < (l1.length : Int)) = true := decide_eq_true (by omega)
        have hlt2 : k < l2.length := by have := HE.out; omega
        obtain ⟨g1, o1, rfl, hc1⟩ := (HN1.out q).at hlt
        obtain ⟨g2, o2, rfl, hc2⟩ := (HN2.out q).at hlt2
        obtain ⟨n1, hn1⟩ : ∃ n, l1.getD k (nd0 0) = n := ⟨_, rfl⟩
        obtain ⟨n2, hn2⟩ : ∃ n, l2.getD k (nd0 0) = n := ⟨_, rfl⟩
        rw [hn1] at hc1
        rw [hn2] at hc2
        have k0 := hc1 0 (.int .i64 n1.kind) (by omega) rfl
        rw [Nat.add_zero] at k0
        have k1 := hc1 1 (.string ⟨n1.key.toArray⟩) (by omega) rfl
        have k2 := hc1 2 (.string ⟨n1.text.toArray⟩) (by omega) rfl
        have k3 := hc1 3 (.bool n1.whole) (by omega) rfl
        have k4 := hc1 4 (.int .i64 n1.int) (by omega) rfl
        have k5 := hc1 5 (.int .i64 n1.kids) (by omega) rfl
        have j0 := hc2 0 (.int .i64 n2.kind) (by omega) rfl
        rw [Nat.add_zero] at j0
        have j1 := hc2 1 (.string ⟨n2.key.toArray⟩) (by omega) rfl
        have j2 := hc2 2 (.string ⟨n2.text.toArray⟩) (by omega) rfl
        have j3 := hc2 3 (.bool n2.whole) (by omega) rfl
        have j4 := hc2 4 (.int .i64 n2.int) (by omega) rfl
        have j5 := hc2 5 (.int .i64 n2.kids) (by omega) rfl
        have HS : Hid (n1 = n2 → l1.take (k + 1) = l2.take (k + 1)) := fun e => by
          rw [takeN9 hlt, takeN9 hlt2, HT.out, hn1, hn2, e]
        have HX : Hid (n1 ≠ n2 → l1 ≠ l2) := fun hne e => hne (by rw [← hn1, ← hn2, e])
        clear hc1 hc2 hn1 hn2
        by_cases heq : n1 = n2
        · have HS2 := HS.out heq
          have HS3 : Hid (l1.take (k + 1) = l2.take (k + 1)) := HS2
          have qn : decide (n1 = n2) = true := decide_eq_true heq
          clear HS HX HS2 heq
          go_wp2
          refine wp_region_K 8 (fun (w' : World) => w'.cell? ⟨g1, o1 + k * 6, none⟩ = some (.int .i64 n1.kind) ∧ w'.cell? ⟨g1, o1 + k * 6 + 1, none⟩ = some (.string ⟨n1.key.toArray⟩) ∧ w'.cell? ⟨g1, o1 + k * 6 + 2, none⟩ = some (.string ⟨n1.text.toArray⟩) ∧ w'.cell? ⟨g1, o1 + k * 6 + 3, none⟩ = some (.bool n1.whole) ∧ w'.cell? ⟨g1, o1 + k * 6 + 4, none⟩ = some (.int .i64 n1.int) ∧ w'.cell? ⟨g1, o1 + k * 6 + 5, none⟩ = some (.int .i64 n1.kids) ∧ w'.cell? ⟨g2, o2 + k * 6, none⟩ = some (.int .i64 n2.kind) ∧ w'.cell? ⟨g2, o2 + k * 6 + 1, none⟩ = some (.string ⟨n2.key.toArray⟩) ∧ w'.cell? ⟨g2, o2 + k * 6 + 2, none⟩ = some (.string ⟨n2.text.toArray⟩) ∧ w'.cell? ⟨g2, o2 + k * 6 + 3, none⟩ = some (.bool n2.whole) ∧ w'.cell? ⟨g2, o2 + k * 6 + 4, none⟩ = some (.int .i64 n2.int) ∧ w'.cell? ⟨g2, o2 + k * 6 + 5, none⟩ = some (.int .i64 n2.kids)) (by kernel_rfl) ?_
          have hHeld : ((fun (w' : World) => w'.cell? ⟨g1, o1 + k * 6, none⟩ = some (.int .i64 n1.kind) ∧ w'.cell? ⟨g1, o1 + k * 6 + 1, none⟩ = some (.string ⟨n1.key.toArray⟩) ∧ w'.cell? ⟨g1, o1 + k * 6 + 2, none⟩ = some (.string ⟨n1.text.toArray⟩) ∧ w'.cell? ⟨g1, o1 + k * 6 + 3, none⟩ = some (.bool n1.whole) ∧ w'.cell? ⟨g1, o1 + k * 6 + 4, none⟩ = some (.int .i64 n1.int) ∧ w'.cell? ⟨g1, o1 + k * 6 + 5, none⟩ = some (.int .i64 n1.kids) ∧ w'.cell? ⟨g2, o2 + k * 6, none⟩ = some (.int .i64 n2.kind) ∧ w'.cell? ⟨g2, o2 + k * 6 + 1, none⟩ = some (.string ⟨n2.key.toArray⟩) ∧ w'.cell? ⟨g2, o2 + k * 6 + 2, none⟩ = some (.string ⟨n2.text.toArray⟩) ∧ w'.cell? ⟨g2, o2 + k * 6 + 3, none⟩ = some (.bool n2.whole) ∧ w'.cell? ⟨g2, o2 + k * 6 + 4, none⟩ = some (.int .i64 n2.int) ∧ w'.cell? ⟨g2, o2 + k * 6 + 5, none⟩ = some (.int .i64 n2.kids))) (World.drew _) := ⟨k0, k1, k2, k3, k4, k5, j0, j1, j2, j3, j4, j5⟩
          refine wpAnyK_take0 0 (v := ?v1) rfl (by kernel_rfl) (fun _ _ _ h => h) (Or.inl ⟨by rfl, ?hy1⟩) (fun _ => hHeld) ?_
          case hy1 => (intro w hSw; go_simp; try with_reducible rfl)
          try simp only [Act.put, List.setIfInBounds_toArray, List.set_cons_zero, List.set_cons_succ]
          refine wpAnyK_take0 1 (v := ?v2) rfl (by kernel_rfl) (fun _ _ _ h => h) (Or.inl ⟨by rfl, ?hy2⟩) (fun _ => hHeld) ?_
          case hy2 => (intro w hSw; go_simp; try with_reducible rfl)
          try simp only [Act.put, List.setIfInBounds_toArray, List.set_cons_zero, List.set_cons_succ]
          refine wpAnyK_take0 2 (v := ?v3) rfl (by kernel_rfl) (fun _ _ _ h => h) (Or.inl ⟨by rfl, ?hy3⟩) (fun _ => hHeld) ?_
          case hy3 => (intro w hSw; go_simp; try with_reducible rfl)
          try simp only [Act.put, List.setIfInBounds_toArray, List.set_cons_zero, List.set_cons_succ]
          refine wpAnyK_take 3 [8] (v := ?v4) rfl (by kernel_rfl) (fun _ _ _ h => h) (Or.inl ⟨by rfl, ?hy4⟩) hHeld ?_
          case hy4 => (intro w hSw; (try dsimp only at hSw); go_simp; try with_reducible rfl)
          try simp only [Act.put, List.setIfInBounds_toArray, List.set_cons_zero, List.set_cons_succ]
          refine wpAnyK_take0 4 (v := ?v5) rfl (by kernel_rfl) (fun _ _ _ h => h) (Or.inl ⟨by rfl, ?hy5⟩) (fun _ => hHeld) ?_
          case hy5 => (intro w hSw; go_simp; try with_reducible rfl)
          try simp only [Act.put, List.setIfInBounds_toArray, List.set_cons_zero, List.set_cons_succ]
          refine wpAnyK_take0 5 (v := ?v6) rfl (by kernel_rfl) (fun _ _ _ h => h) (Or.inl ⟨by rfl, ?hy6⟩) (fun _ => hHeld) ?_
          case hy6 => (intro w hSw; go_simp; try with_reducible rfl)
          try simp only [Act.put, List.setIfInBounds_toArray, List.set_cons_zero, List.set_cons_succ]
          refine wpAnyK_take0 6 (v := ?v7) rfl (by kernel_rfl) (fun _ _ _ h => h) (Or.inl ⟨by rfl, ?hy7⟩) (fun _ => hHeld) ?_
          case hy7 => (intro w hSw; go_simp; try with_reducible rfl)
          try simp only [Act.put, List.setIfInBounds_toArray, List.set_cons_zero, List.set_cons_succ]
          refine wpAnyK_take 7 [8] (v := ?v8) rfl (by kernel_rfl) (fun _ _ _ h => h) (Or.inl ⟨by rfl, ?hy8⟩) hHeld ?_
          case hy8 => (intro w hSw; (try dsimp only at hSw); go_simp; try with_reducible rfl)
          try simp only [Act.put, List.setIfInBounds_toArray, List.set_cons_zero, List.set_cons_succ]
          refine wpAnyK_step 8 rfl (by kernel_rfl) (fun K hK => ?_)
          go_simp
          refine hK.out _ _ ?hk9 ?_
          case hk9 => exact (fun h => nomatch (h.symm.trans (show _ = true by kernel_rfl)))
          clear hK K
          try simp only [Act.put, List.setIfInBounds_toArray, List.set_cons_zero, List.set_cons_succ]
          refine wpAnyK_done (by kernel_rfl) ?_ _
          clear hHeld
          go_wp2
          go_roundw
          case rel => exact ⟨k + 1, _, by go_num, by omega, rfl, HS3.out⟩
          case measure => simp [intOf]; omega
        · have HX3 : Hid (l1 ≠ l2) := HX.out heq
          have qn : decide (n1 = n2) = false := decide_eq_false heq
          clear HS HX heq
          go_wp2
          refine wp_region_K 8 (fun (w' : World) => w'.cell? ⟨g1, o1 + k * 6, none⟩ = some (.int .i64 n1.kind) ∧ w'.cell? ⟨g1, o1 + k * 6 + 1, none⟩ = some (.string ⟨n1.key.toArray⟩) ∧ w'.cell? ⟨g1, o1 + k * 6 + 2, none⟩ = some (.string ⟨n1.text.toArray⟩) ∧ w'.cell? ⟨g1, o1 + k * 6 + 3, none⟩ = some (.bool n1.whole) ∧ w'.cell? ⟨g1, o1 + k * 6 + 4, none⟩ = some (.int .i64 n1.int) ∧ w'.cell? ⟨g1, o1 + k * 6 + 5, none⟩ = some (.int .i64 n1.kids) ∧ w'.cell? ⟨g2, o2 + k * 6, none⟩ = some (.int .i64 n2.kind) ∧ w'.cell? ⟨g2, o2 + k * 6 + 1, none⟩ = some (.string ⟨n2.key.toArray⟩) ∧ w'.cell? ⟨g2, o2 + k * 6 + 2, none⟩ = some (.string ⟨n2.text.toArray⟩) ∧ w'.cell? ⟨g2, o2 + k * 6 + 3, none⟩ = some (.bool n2.whole) ∧ w'.cell? ⟨g2, o2 + k * 6 + 4, none⟩ = some (.int .i64 n2.int) ∧ w'.cell? ⟨g2, o2 + k * 6 + 5, none⟩ = some (.int .i64 n2.kids)) (by kernel_rfl) ?_
          have hHeld : ((fun (w' : World) => w'.cell? ⟨g1, o1 + k * 6, none⟩ = some (.int .i64 n1.kind) ∧ w'.cell? ⟨g1, o1 + k * 6 + 1, none⟩ = some (.string ⟨n1.key.toArray⟩) ∧ w'.cell? ⟨g1, o1 + k * 6 + 2, none⟩ = some (.string ⟨n1.text.toArray⟩) ∧ w'.cell? ⟨g1, o1 + k * 6 + 3, none⟩ = some (.bool n1.whole) ∧ w'.cell? ⟨g1, o1 + k * 6 + 4, none⟩ = some (.int .i64 n1.int) ∧ w'.cell? ⟨g1, o1 + k * 6 + 5, none⟩ = some (.int .i64 n1.kids) ∧ w'.cell? ⟨g2, o2 + k * 6, none⟩ = some (.int .i64 n2.kind) ∧ w'.cell? ⟨g2, o2 + k * 6 + 1, none⟩ = some (.string ⟨n2.key.toArray⟩) ∧ w'.cell? ⟨g2, o2 + k * 6 + 2, none⟩ = some (.string ⟨n2.text.toArray⟩) ∧ w'.cell? ⟨g2, o2 + k * 6 + 3, none⟩ = some (.bool n2.whole) ∧ w'.cell? ⟨g2, o2 + k * 6 + 4, none⟩ = some (.int .i64 n2.int) ∧ w'.cell? ⟨g2, o2 + k * 6 + 5, none⟩ = some (.int .i64 n2.kids))) (World.drew _) := ⟨k0, k1, k2, k3, k4, k5, j0, j1, j2, j3, j4, j5⟩
          refine wpAnyK_take0 0 (v := ?v1) rfl (by kernel_rfl) (fun _ _ _ h => h) (Or.inl ⟨by rfl, ?hy1⟩) (fun _ => hHeld) ?_
          case hy1 => (intro w hSw; go_simp; try with_reducible rfl)
          try simp only [Act.put, List.setIfInBounds_toArray, List.set_cons_zero, List.set_cons_succ]
          refine wpAnyK_take0 1 (v := ?v2) rfl (by kernel_rfl) (fun _ _ _ h => h) (Or.inl ⟨by rfl, ?hy2⟩) (fun _ => hHeld) ?_
          case hy2 => (intro w hSw; go_simp; try with_reducible rfl)
          try simp only [Act.put, List.setIfInBounds_toArray, List.set_cons_zero, List.set_cons_succ]
          refine wpAnyK_take0 2 (v := ?v3) rfl (by kernel_rfl) (fun _ _ _ h => h) (Or.inl ⟨by rfl, ?hy3⟩) (fun _ => hHeld) ?_
          case hy3 => (intro w hSw; go_simp; try with_reducible rfl)
          try simp only [Act.put, List.setIfInBounds_toArray, List.set_cons_zero, List.set_cons_succ]
          refine wpAnyK_take 3 [8] (v := ?v4) rfl (by kernel_rfl) (fun _ _ _ h => h) (Or.inl ⟨by rfl, ?hy4⟩) hHeld ?_
          case hy4 => (intro w hSw; (try dsimp only at hSw); go_simp; try with_reducible rfl)
          try simp only [Act.put, List.setIfInBounds_toArray, List.set_cons_zero, List.set_cons_succ]
          refine wpAnyK_take0 4 (v := ?v5) rfl (by kernel_rfl) (fun _ _ _ h => h) (Or.inl ⟨by rfl, ?hy5⟩) (fun _ => hHeld) ?_
          case hy5 => (intro w hSw; go_simp; try with_reducible rfl)
          try simp only [Act.put, List.setIfInBounds_toArray, List.set_cons_zero, List.set_cons_succ]
          refine wpAnyK_take0 5 (v := ?v6) rfl (by kernel_rfl) (fun _ _ _ h => h) (Or.inl ⟨by rfl, ?hy6⟩) (fun _ => hHeld) ?_
          case hy6 => (intro w hSw; go_simp; try with_reducible rfl)
          try simp only [Act.put, List.setIfInBounds_toArray, List.set_cons_zero, List.set_cons_succ]
          refine wpAnyK_take0 6 (v := ?v7) rfl (by kernel_rfl) (fun _ _ _ h => h) (Or.inl ⟨by rfl, ?hy7⟩) (fun _ => hHeld) ?_
          case hy7 => (intro w hSw; go_simp; try with_reducible rfl)
          try simp only [Act.put, List.setIfInBounds_toArray, List.set_cons_zero, List.set_cons_succ]
          refine wpAnyK_take 7 [8] (v := ?v8) rfl (by kernel_rfl) (fun _ _ _ h => h) (Or.inl ⟨by rfl, ?hy8⟩) hHeld ?_
          case hy8 => (intro w hSw; (try dsimp only at hSw); go_simp; try with_reducible rfl)
          try simp only [Act.put, List.setIfInBounds_toArray, List.set_cons_zero, List.set_cons_succ]
          refine wpAnyK_step 8 rfl (by kernel_rfl) (fun K hK => ?_)
          go_simp
          refine hK.out _ _ ?hk9 ?_
          case hk9 => exact (fun h => nomatch (h.symm.trans (show _ = true by kernel_rfl)))
          clear hK K
          try simp only [Act.put, List.setIfInBounds_toArray, List.set_cons_zero, List.set_cons_succ]
          refine wpAnyK_done (by kernel_rfl) ?_ _
          clear hHeld
          go_wp2
          go_ret
          refine ⟨?_, _, rfl⟩
          rw [decide_eq_false HX3.out]; rfl
      · have q0 : decide ((k : Int) < (l1.length : Int)) = false := decide_eq_false (by omega)
        have HX : Hid (l1 = l2) := by
          show _ = _
          have := HT.out
          rwa [List.take_of_length_le (by omega), List.take_of_length_le (by have := HE.out; omega)] at this
        clear HT
        go_wp2
        go_ret
        refine ⟨?_, q, rfl⟩
        rw [decide_eq_true HX.out]; rfl
  · have qe : ((l1.length : Int) != (l2.length : Int)) = true := by simp; omega
    have HX : Hid (l1 ≠ l2) := fun e => he (by rw [e])
    clear h1 h2 he
    go_enter Tryd.func31, Tryd.ntmps31
    go_wp2
    go_ret
    refine ⟨?_, 0, rfl⟩
    rw [decide_eq_false HX.out]; rfl


end Go.Proofs.YtkfchdmlemcjhaaDoor

namespace Go.Proofs.YtkfchdmlemcjhaaDoor
open Go.RowKit Go.Shelf

end Go.Proofs.YtkfchdmlemcjhaaDoor

namespace Go.Proofs.YtkfchdmlemcjhaaDoor
open Go.RowKit Go.Shelf

end Go.Proofs.YtkfchdmlemcjhaaDoor

namespace Go.Proofs.YtkfchdmlemcjhaaDoor
open Go.RowKit

/-- A load of a whole struct behind a guard that is met. -/
theorem wpList_load_midG {P : Program} {ops : Array Oper} {rest : List Oper} {op : Oper} {a : Act} {w : World} {Q : Exit → Act → World → Prop} (hw : Region.wanted op (yielded ops a.tmps) = true) (ty : TypeId) (x : Operand) (ho : op.op = .load ty x)
    (b o : Nat) (hx : a.eval x = .pointer (some ⟨b, o, none⟩)) (cs : List Value) (d : TypeDesc) (hc : w.rangeAt b o cs)
    (hu : P.underlying ty = some d) (hd : d.isRow = true) (hi : (P.info? ty).map (·.size) = some cs.length)
    (h : wpList P ops Q rest (a.put op.dst (.agg cs.toArray)) w) : wpList P ops Q (op :: rest) a w :=
  wpList_step fun K hK => by rw [if_pos hw]; exact wp_load_mid ty x ho b o hx cs d hc hu hd hi (hK _ _ h)

end Go.Proofs.YtkfchdmlemcjhaaDoor
