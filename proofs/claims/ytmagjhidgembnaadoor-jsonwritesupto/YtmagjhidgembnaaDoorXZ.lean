import Derived.Test.YtmagjhidgembnaaDoorTZ
namespace Go.Proofs.YtmagjhidgembnaaDoor
open Go.RowKit Go.Shelf

theorem takeN {l : List Nd} {k : Nat} (hk : k < l.length) : l.take (k + 1) = l.take k ++ [l.getD k (nd0 0)] := by
  rw [List.take_add_one, List.getElem?_eq_getElem hk]
  simp [List.getD_eq_getElem?_getD, hk]
set_option maxRecDepth 100000 in
theorem run_nodes_ne (w : World) (n m : Nd) : (binOp .neq 31 (.agg #[.int .i64 n.kind, .string ⟨n.key.toArray⟩, .string ⟨n.text.toArray⟩, .bool n.whole, .int .i64 n.int, .int .i64 n.kids]) (.agg #[.int .i64 m.kind, .string ⟨m.key.toArray⟩, .string ⟨m.text.toArray⟩, .bool m.whole, .int .i64 m.int, .int .i64 m.kids])).run Tryd.prog w = .ok (.bool (!decide (n = m))) w := by
  have h := run_nodes w n m
  rw [run_eql_struct] at h
  rw [run_neq_struct]
  revert h
  generalize (Op.equalIn 10000 31 _ _).run Tryd.prog w = r
  intro h
  cases r with
  | ok b w' =>
    simp only [Result.andThen_ok] at h ⊢
    cases h
    rfl
  | _ => cases h

set_option maxRecDepth 100000 in
set_option maxHeartbeats 4000000 in
theorem rsame_any (v1 v2 : Value) (l1 l2 : List Nd) (a1 a2 : Option Addr) (c1 c2 : Nat) (w : World) (h1 : NR w v1 l1 a1 c1) (h2 : NR w v2 l2 a2 c2) (hl : l1.length ≤ 1000000000) :
    Calls Tryd.prog 15 #[v1, v2] w fun e w' => e = .returned (.bool (decide (l1 = l2))) ∧ ∃ q, w' = w.drewN q := by
  obtain ⟨rfl, _, _⟩ := id h1
  obtain ⟨rfl, _, _⟩ := id h2
  by_cases he : l1.length = l2.length
  · have HN1 : Hid (∀ q, NR (w.drewN q) (.slice a1 l1.length c1) l1 a1 c1) := fun q => h1.drewN q
    have HN2 : Hid (∀ q, NR (w.drewN q) (.slice a2 l2.length c2) l2 a2 c2) := fun q => h2.drewN q
    have HE : Hid (l1.length = l2.length) := he
    have qe : ((l1.length : Int) != (l2.length : Int)) = false := by simp; omega
    have hrn := run_nodes_ne
    clear h1 h2 he
    go_enter Tryd.func15, Tryd.ntmps15
    go_wp2
    go_loopw [5] (fun s5 wx => ∃ k q : Nat, s5 = .int .i64 k ∧ k ≤ l1.length ∧ wx = w.drewN q ∧ l1.take k = l2.take k) (fun s _ => l1.length - (intOf s).toNat)
    case atStart => exact ⟨0, 0, rfl, Nat.zero_le _, rfl, rfl⟩
    case round =>
      obtain ⟨k, q, rfl, hk, rfl, htk⟩ := hrel
      have HT : Hid (l1.take k = l2.take k) := htk
      clear htk
      by_cases hlt : k < l1.length
      · have q0 : decide ((k : Int) < (l1.length : Int)) = true := decide_eq_true (by omega)
        have hlt2 : k < l2.length := by have := HE.out; omega
        obtain ⟨g1, o1, rfl, hc1⟩ := (HN1.out q).at hlt
        obtain ⟨g2, o2, rfl, hc2⟩ := (HN2.out q).at hlt2
        obtain ⟨n1, hn1⟩ : ∃ n, l1.getD k (nd0 0) = n := ⟨_, rfl⟩
        obtain ⟨n2, hn2⟩ : ∃ n, l2.getD k (nd0 0) = n := ⟨_, rfl⟩
        rw [hn1] at hc1
        rw [hn2] at hc2
        have k0 := hc1 0 (.int .i64 n1.kind) (by omega) rfl
        rw [Nat.add_zero] at k0
        have k1 := hc1 1 (.string ⟨n1.key.toArray⟩) (by omega) rfl
        have k2 := hc1 2 (.string ⟨n1.text.toArray⟩) (by omega) rfl
        have k3 := hc1 3 (.bool n1.whole) (by omega) rfl
        have k4 := hc1 4 (.int .i64 n1.int) (by omega) rfl
        have k5 := hc1 5 (.int .i64 n1.kids) (by omega) rfl
        have j0 := hc2 0 (.int .i64 n2.kind) (by omega) rfl
        rw [Nat.add_zero] at j0
        have j1 := hc2 1 (.string ⟨n2.key.toArray⟩) (by omega) rfl
        have j2 := hc2 2 (.string ⟨n2.text.toArray⟩) (by omega) rfl
        have j3 := hc2 3 (.bool n2.whole) (by omega) rfl
        have j4 := hc2 4 (.int .i64 n2.int) (by omega) rfl
        have j5 := hc2 5 (.int .i64 n2.kids) (by omega) rfl
        have HS : Hid (n1 = n2 → l1.take (k + 1) = l2.take (k + 1)) := fun e => by
          rw [takeN hlt, takeN hlt2, HT.out, hn1, hn2, e]
        have HX : Hid (n1 ≠ n2 → l1 ≠ l2) := fun hne e => hne (by rw [← hn1, ← hn2, e])
        clear hc1 hc2 hn1 hn2
        by_cases heq : n1 = n2
        · have HS2 := HS.out heq
          have HS3 : Hid (l1.take (k + 1) = l2.take (k + 1)) := HS2
          have qn : decide (n1 = n2) = true := decide_eq_true heq
          clear HS HX HS2 heq
          go_wp2
          refine wp_region_K 8 (fun (w' : World) => w'.cell? ⟨g1, o1 + k * 6, none⟩ = some (.int .i64 n1.kind) ∧ w'.cell? ⟨g1, o1 + k * 6 + 1, none⟩ = some (.string ⟨n1.key.toArray⟩) ∧ w'.cell? ⟨g1, o1 + k * 6 + 2, none⟩ = some (.string ⟨n1.text.toArray⟩) ∧ w'.cell? ⟨g1, o1 + k * 6 + 3, none⟩ = some (.bool n1.whole) ∧ w'.cell? ⟨g1, o1 + k * 6 + 4, none⟩ = some (.int .i64 n1.int) ∧ w'.cell? ⟨g1, o1 + k * 6 + 5, none⟩ = some (.int .i64 n1.kids) ∧ w'.cell? ⟨g2, o2 + k * 6, none⟩ = some (.int .i64 n2.kind) ∧ w'.cell? ⟨g2, o2 + k * 6 + 1, none⟩ = some (.string ⟨n2.key.toArray⟩) ∧ w'.cell? ⟨g2, o2 + k * 6 + 2, none⟩ = some (.string ⟨n2.text.toArray⟩) ∧ w'.cell? ⟨g2, o2 + k * 6 + 3, none⟩ = some (.bool n2.whole) ∧ w'.cell? ⟨g2, o2 + k * 6 + 4, none⟩ = some (.int .i64 n2.int) ∧ w'.cell? ⟨g2, o2 + k * 6 + 5, none⟩ = some (.int .i64 n2.kids)) (by kernel_rfl) ?_
          have hHeld : ((fun (w' : World) => w'.cell? ⟨g1, o1 + k * 6, none⟩ = some (.int .i64 n1.kind) ∧ w'.cell? ⟨g1, o1 + k * 6 + 1, none⟩ = some (.string ⟨n1.key.toArray⟩) ∧ w'.cell? ⟨g1, o1 + k * 6 + 2, none⟩ = some (.string ⟨n1.text.toArray⟩) ∧ w'.cell? ⟨g1, o1 + k * 6 + 3, none⟩ = some (.bool n1.whole) ∧ w'.cell? ⟨g1, o1 + k * 6 + 4, none⟩ = some (.int .i64 n1.int) ∧ w'.cell? ⟨g1, o1 + k * 6 + 5, none⟩ = some (.int .i64 n1.kids) ∧ w'.cell? ⟨g2, o2 + k * 6, none⟩ = some (.int .i64 n2.kind) ∧ w'.cell? ⟨g2, o2 + k * 6 + 1, none⟩ = some (.string ⟨n2.key.toArray⟩) ∧ w'.cell? ⟨g2, o2 + k * 6 + 2, none⟩ = some (.string ⟨n2.text.toArray⟩) ∧ w'.cell? ⟨g2, o2 + k * 6 + 3, none⟩ = some (.bool n2.whole) ∧ w'.cell? ⟨g2, o2 + k * 6 + 4, none⟩ = some (.int .i64 n2.int) ∧ w'.cell? ⟨g2, o2 + k * 6 + 5, none⟩ = some (.int .i64 n2.kids))) (World.drew _) := ⟨k0, k1, k2, k3, k4, k5, j0, j1, j2, j3, j4, j5⟩
          refine wpAnyK_take0 0 (v := ?v1) rfl (by kernel_rfl) (fun _ _ _ h => h) (Or.inl ⟨by rfl, ?hy1⟩) (fun _ => hHeld) ?_
          case hy1 => (intro w hSw; go_simp; try with_reducible rfl)
          try simp only [Act.put, List.setIfInBounds_toArray, List.set_cons_zero, List.set_cons_succ]
          refine wpAnyK_take0 1 (v := ?v2) rfl (by kernel_rfl) (fun _ _ _ h => h) (Or.inl ⟨by rfl, ?hy2⟩) (fun _ => hHeld) ?_
          case hy2 => (intro w hSw; go_simp; try with_reducible rfl)
          try simp only [Act.put, List.setIfInBounds_toArray, List.set_cons_zero, List.set_cons_succ]
          refine wpAnyK_take0 2 (v := ?v3) rfl (by kernel_rfl) (fun _ _ _ h => h) (Or.inl ⟨by rfl, ?hy3⟩) (fun _ => hHeld) ?_
          case hy3 => (intro w hSw; go_simp; try with_reducible rfl)
          try simp only [Act.put, List.setIfInBounds_toArray, List.set_cons_zero, List.set_cons_succ]
          refine wpAnyK_take 3 [8] (v := ?v4) rfl (by kernel_rfl) (fun _ _ _ h => h) (Or.inl ⟨by rfl, ?hy4⟩) hHeld ?_
          case hy4 => (intro w hSw; (try dsimp only at hSw); go_simp; try with_reducible rfl)
          try simp only [Act.put, List.setIfInBounds_toArray, List.set_cons_zero, List.set_cons_succ]
          refine wpAnyK_take0 4 (v := ?v5) rfl (by kernel_rfl) (fun _ _ _ h => h) (Or.inl ⟨by rfl, ?hy5⟩) (fun _ => hHeld) ?_
          case hy5 => (intro w hSw; go_simp; try with_reducible rfl)
          try simp only [Act.put, List.setIfInBounds_toArray, List.set_cons_zero, List.set_cons_succ]
          refine wpAnyK_take0 5 (v := ?v6) rfl (by kernel_rfl) (fun _ _ _ h => h) (Or.inl ⟨by rfl, ?hy6⟩) (fun _ => hHeld) ?_
          case hy6 => (intro w hSw; go_simp; try with_reducible rfl)
          try simp only [Act.put, List.setIfInBounds_toArray, List.set_cons_zero, List.set_cons_succ]
          refine wpAnyK_take0 6 (v := ?v7) rfl (by kernel_rfl) (fun _ _ _ h => h) (Or.inl ⟨by rfl, ?hy7⟩) (fun _ => hHeld) ?_
          case hy7 => (intro w hSw; go_simp; try with_reducible rfl)
          try simp only [Act.put, List.setIfInBounds_toArray, List.set_cons_zero, List.set_cons_succ]
          refine wpAnyK_take 7 [8] (v := ?v8) rfl (by kernel_rfl) (fun _ _ _ h => h) (Or.inl ⟨by rfl, ?hy8⟩) hHeld ?_
          case hy8 => (intro w hSw; (try dsimp only at hSw); go_simp; try with_reducible rfl)
          try simp only [Act.put, List.setIfInBounds_toArray, List.set_cons_zero, List.set_cons_succ]
          refine wpAnyK_step 8 rfl (by kernel_rfl) (fun K hK => ?_)
          go_simp
          refine hK.out _ _ ?hk9 ?_
          case hk9 => exact (fun h => nomatch (h.symm.trans (show _ = true by kernel_rfl)))
          clear hK K
          try simp only [Act.put, List.setIfInBounds_toArray, List.set_cons_zero, List.set_cons_succ]
          refine wpAnyK_done (by kernel_rfl) ?_ _
          clear hHeld
          go_wp2
          go_roundw
          case rel => exact ⟨k + 1, _, by go_num, by omega, rfl, HS3.out⟩
          case measure => simp [intOf]; omega
        · have HX3 : Hid (l1 ≠ l2) := HX.out heq
          have qn : decide (n1 = n2) = false := decide_eq_false heq
          clear HS HX heq
          go_wp2
          refine wp_region_K 8 (fun (w' : World) => w'.cell? ⟨g1, o1 + k * 6, none⟩ = some (.int .i64 n1.kind) ∧ w'.cell? ⟨g1, o1 + k * 6 + 1, none⟩ = some (.string ⟨n1.key.toArray⟩) ∧ w'.cell? ⟨g1, o1 + k * 6 + 2, none⟩ = some (.string ⟨n1.text.toArray⟩) ∧ w'.cell? ⟨g1, o1 + k * 6 + 3, none⟩ = some (.bool n1.whole) ∧ w'.cell? ⟨g1, o1 + k * 6 + 4, none⟩ = some (.int .i64 n1.int) ∧ w'.cell? ⟨g1, o1 + k * 6 + 5, none⟩ = some (.int .i64 n1.kids) ∧ w'.cell? ⟨g2, o2 + k * 6, none⟩ = some (.int .i64 n2.kind) ∧ w'.cell? ⟨g2, o2 + k * 6 + 1, none⟩ = some (.string ⟨n2.key.toArray⟩) ∧ w'.cell? ⟨g2, o2 + k * 6 + 2, none⟩ = some (.string ⟨n2.text.toArray⟩) ∧ w'.cell? ⟨g2, o2 + k * 6 + 3, none⟩ = some (.bool n2.whole) ∧ w'.cell? ⟨g2, o2 + k * 6 + 4, none⟩ = some (.int .i64 n2.int) ∧ w'.cell? ⟨g2, o2 + k * 6 + 5, none⟩ = some (.int .i64 n2.kids)) (by kernel_rfl) ?_
          have hHeld : ((fun (w' : World) => w'.cell? ⟨g1, o1 + k * 6, none⟩ = some (.int .i64 n1.kind) ∧ w'.cell? ⟨g1, o1 + k * 6 + 1, none⟩ = some (.string ⟨n1.key.toArray⟩) ∧ w'.cell? ⟨g1, o1 + k * 6 + 2, none⟩ = some (.string ⟨n1.text.toArray⟩) ∧ w'.cell? ⟨g1, o1 + k * 6 + 3, none⟩ = some (.bool n1.whole) ∧ w'.cell? ⟨g1, o1 + k * 6 + 4, none⟩ = some (.int .i64 n1.int) ∧ w'.cell? ⟨g1, o1 + k * 6 + 5, none⟩ = some (.int .i64 n1.kids) ∧ w'.cell? ⟨g2, o2 + k * 6, none⟩ = some (.int .i64 n2.kind) ∧ w'.cell? ⟨g2, o2 + k * 6 + 1, none⟩ = some (.string ⟨n2.key.toArray⟩) ∧ w'.cell? ⟨g2, o2 + k * 6 + 2, none⟩ = some (.string ⟨n2.text.toArray⟩) ∧ w'.cell? ⟨g2, o2 + k * 6 + 3, none⟩ = some (.bool n2.whole) ∧ w'.cell? ⟨g2, o2 + k * 6 + 4, none⟩ = some (.int .i64 n2.int) ∧ w'.cell? ⟨g2, o2 + k * 6 + 5, none⟩ = some (.int .i64 n2.kids))) (World.drew _) := ⟨k0, k1, k2, k3, k4, k5, j0, j1, j2, j3, j4, j5⟩
          refine wpAnyK_take0 0 (v := ?v1) rfl (by kernel_rfl) (fun _ _ _ h => h) (Or.inl ⟨by rfl, ?hy1⟩) (fun _ => hHeld) ?_
          case hy1 => (intro w hSw; go_simp; try with_reducible rfl)
          try simp only [Act.put, List.setIfInBounds_toArray, List.set_cons_zero, List.set_cons_succ]
          refine wpAnyK_take0 1 (v := ?v2) rfl (by kernel_rfl) (fun _ _ _ h => h) (Or.inl ⟨by rfl, ?hy2⟩) (fun _ => hHeld) ?_
          case hy2 => (intro w hSw; go_simp; try with_reducible rfl)
          try simp only [Act.put, List.setIfInBounds_toArray, List.set_cons_zero, List.set_cons_succ]
          refine wpAnyK_take0 2 (v := ?v3) rfl (by kernel_rfl) (fun _ _ _ h => h) (Or.inl ⟨by rfl, ?hy3⟩) (fun _ => hHeld) ?_
          case hy3 => (intro w hSw; go_simp; try with_reducible rfl)
          try simp only [Act.put, List.setIfInBounds_toArray, List.set_cons_zero, List.set_cons_succ]
          refine wpAnyK_take 3 [8] (v := ?v4) rfl (by kernel_rfl) (fun _ _ _ h => h) (Or.inl ⟨by rfl, ?hy4⟩) hHeld ?_
          case hy4 => (intro w hSw; (try dsimp only at hSw); go_simp; try with_reducible rfl)
          try simp only [Act.put, List.setIfInBounds_toArray, List.set_cons_zero, List.set_cons_succ]
          refine wpAnyK_take0 4 (v := ?v5) rfl (by kernel_rfl) (fun _ _ _ h => h) (Or.inl ⟨by rfl, ?hy5⟩) (fun _ => hHeld) ?_
          case hy5 => (intro w hSw; go_simp; try with_reducible rfl)
          try simp only [Act.put, List.setIfInBounds_toArray, List.set_cons_zero, List.set_cons_succ]
          refine wpAnyK_take0 5 (v := ?v6) rfl (by kernel_rfl) (fun _ _ _ h => h) (Or.inl ⟨by rfl, ?hy6⟩) (fun _ => hHeld) ?_
          case hy6 => (intro w hSw; go_simp; try with_reducible rfl)
          try simp only [Act.put, List.setIfInBounds_toArray, List.set_cons_zero, List.set_cons_succ]
          refine wpAnyK_take0 6 (v := ?v7) rfl (by kernel_rfl) (fun _ _ _ h => h) (Or.inl ⟨by rfl, ?hy7⟩) (fun _ => hHeld) ?_
          case hy7 => (intro w hSw; go_simp; try with_reducible rfl)
          try simp only [Act.put, List.setIfInBounds_toArray, List.set_cons_zero, List.set_cons_succ]
          refine wpAnyK_take 7 [8] (v := ?v8) rfl (by kernel_rfl) (fun _ _ _ h => h) (Or.inl ⟨by rfl, ?hy8⟩) hHeld ?_
          case hy8 => (intro w hSw; (try dsimp only at hSw); go_simp; try with_reducible rfl)
          try simp only [Act.put, List.setIfInBounds_toArray, List.set_cons_zero, List.set_cons_succ]
          refine wpAnyK_step 8 rfl (by kernel_rfl) (fun K hK => ?_)
          go_simp
          refine hK.out _ _ ?hk9 ?_
          case hk9 => exact (fun h => nomatch (h.symm.trans (show _ = true by kernel_rfl)))
          clear hK K
          try simp only [Act.put, List.setIfInBounds_toArray, List.set_cons_zero, List.set_cons_succ]
          refine wpAnyK_done (by kernel_rfl) ?_ _
          clear hHeld
          go_wp2
          go_ret
          refine ⟨?_, _, rfl⟩
          rw [decide_eq_false HX3.out]; rfl
      · have q0 : decide ((k : Int) < (l1.length : Int)) = false := decide_eq_false (by omega)
        have HX : Hid (l1 = l2) := by
          show _ = _
          have := HT.out
          rwa [List.take_of_length_le (by omega), List.take_of_length_le (by have := HE.out; omega)] at this
        clear HT
        go_wp2
        go_ret
        refine ⟨?_, q, rfl⟩
        rw [decide_eq_true HX.out]; rfl
  · have qe : ((l1.length : Int) != (l2.length : Int)) = true := by simp; omega
    have HX : Hid (l1 ≠ l2) := fun e => he (by rw [e])
    clear h1 h2 he
    go_enter Tryd.func15, Tryd.ntmps15
    go_wp2
    go_ret
    refine ⟨?_, 0, rfl⟩
    rw [decide_eq_false HX.out]; rfl

end Go.Proofs.YtmagjhidgembnaaDoor

namespace Go.Proofs.YtmagjhidgembnaaDoor
open Go.RowKit Go.Shelf

def zV (i : Int) : Value := .int .i64 i
/-- A list of numbers of one's own. -/
structure OZ (B : Nat) (w0 w : World) (v : Value) (l : List Int) : Prop where
  own : w.ownsRow B 3 1 v l.length (l.map zV)
  bel : Below B w0 w
theorem OZ.lift {B : Nat} {w0 w w' : World} {v : Value} {l : List Int} (h : OZ B w0 w v l) (hb : Below w.heap.size w w') (hB : B ≤ w0.heap.size) : OZ B w0 w' v l :=
  ⟨own_below h.own hb (Nat.le_refl _), h.bel.trans (hb.mono (Nat.le_trans hB h.bel.size))⟩
theorem OZ.drewN {B : Nat} {w0 w : World} {v : Value} {l : List Int} (h : OZ B w0 w v l) (n : Nat) : OZ B w0 (w.drewN n) v l := ⟨h.own, below_drewN h.bel n⟩
theorem append_z {wr : World} {ops : Array Oper} {rest : List Oper} {o : Oper} {a : Act} {Q : Exit → Act → World → Prop} (hgd : o.guard = none) (s x : Operand)
    (ho : o.op = .call { callee := .builtin .append, args := #[s, x], argTypes := #[32, 32] })
    (B : Nat) (w0 : World) (v : Value) (l : List Int) (y : Int) (hs : a.eval s = v) (h : OZ B w0 wr v l) (bn : Nat) (hbn : bn = wr.heap.size) (hx : a.eval x = .slice (some ⟨bn, 0, none⟩) 1 1) (hl : l.length ≤ 10000000000) (hB : B ≤ w0.heap.size)
    (k : ∀ v' w', OZ B w0 w' v' (l ++ [y]) → wpList Tryd.prog ops Q rest (a.put o.dst v') w') : wpList Tryd.prog ops Q (o :: rest) a (wr.alloc (.cells #[.int .i64 y] 3)) := by
  subst hbn
  obtain ⟨i, hi, hz, hsize, hby⟩ := info_parts infoI
  have hBl : Bl 3 (wr.alloc (.cells #[.int .i64 y] 3)) wr.heap.size [zV y] := alloc_bl _ _ _
  have h1 := h.lift (alloc_below wr (.cells #[.int .i64 y] 3)) hB
  refine wpList_append_own_wide _ hgd s x 32 ho B 3 i (.int .i64 0) 1 8 Tryd.underlying32 hi hz hsize hby rfl (by decide) v l.length (l.map zV) hs h1.own ⟨wr.heap.size, 0, none⟩ 1 1 [zV y] hx rfl ?_ (by intro u hu; simp at hu; subst hu; rfl) (by unfold maxLen; omega) (by omega) (Nat.le_trans hB h1.bel.size) ?_
  · intro j u hu
    obtain ⟨hlt, e⟩ := List.getElem?_eq_some_iff.1 hu
    rw [Addr.add_mid, Nat.zero_add, ← e]
    exact hBl.cell j hlt
  · intro v' w' h2 h3 _
    refine k v' w' ⟨?_, ?_⟩
    · rw [List.length_append, List.map_append]; exact h2
    · exact h1.bel.grown h3 (Nat.le_trans hB h1.bel.size) (own_block h1.own)

def lenV : Value → Nat
  | .slice _ n _ => n
  | _ => 0

/-- A copy of nodes. -/
theorem nCs_oneC (l : List Nd) : ∀ u ∈ nCs l, u.oneCell' = true := by
  intro u hu
  unfold nCs at hu
  obtain ⟨n, _, hn⟩ := List.mem_flatMap.1 hu
  simp [nC] at hn
  rcases hn with rfl | rfl | rfl | rfl | rfl | rfl <;> rfl

set_option maxRecDepth 100000 in
set_option maxHeartbeats 4000000 in
theorem twin_any (v : Value) (l : List Nd) (ao : Option Addr) (cap : Nat) (w : World) (h : NR w v l ao cap) (hl : l.length ≤ 1000000000) (hnil : ao = none → cap = 0) :
    Calls Tryd.prog 11 #[v] w fun e w' => Below w.heap.size w w' ∧ ∃ v', e = .returned v' ∧ NO w.heap.size w' v' l := by
  obtain ⟨rfl, hc, hcell⟩ := id h
  obtain ⟨i1, hi1, hz1, hz2, hz3⟩ := info_parts infoN
  cases ao with
  | none =>
    obtain rfl := hnil rfl
    have hl0 : l = [] := List.eq_nil_of_length_eq_zero (by omega)
    subst hl0
    clear h hnil hcell
    go_enter Tryd.func11, Tryd.ntmps11
    go_wp2
    go_ret
    exact ⟨Below.refl _ _, _, rfl, World.ownsRow_nil _ _ _ _⟩
  | some ad =>
    have HC : Hid (∃ g off : Nat, ad = ⟨g, off, none⟩ ∧ ∀ j u, (nCs l)[j]? = some u → w.cell? ((⟨g, off, none⟩ : Addr).add j) = some u) ∨ Hid (l = []) := by
      rcases hcell with h0 | ⟨g, off, e, _, hcc⟩
      · exact .inr h0
      · cases e
        exact .inl ⟨g, off, rfl, fun j u hu => by rw [Addr.add_mid]; exact hcc j u hu⟩
    have HX : Hid (∀ j u, (nCs l)[j]? = some u → w.cell? (ad.add j) = some u) := by
      rcases HC with h0 | h0
      · obtain ⟨g, off, rfl, hh⟩ := h0.out
        exact hh
      · intro j u hu
        rw [h0.out] at hu
        simp [nCs] at hu
    have HL : Hid ((nCs l).length = l.length * 6) := nCs_length l
    clear h hnil hcell HC
    go_enter Tryd.func11, Tryd.ntmps11
    go_wp2_with (at_builtin; refine wpList_append_own_wide _ rfl (.tmp 4) (.tmp 5) 22 rfl w.heap.size 31 i1 (.agg #[.int .i64 0, .string ⟨#[]⟩, .string ⟨#[]⟩, .bool false, .int .i64 0, .int .i64 0]) 6 64 Tryd.underlying22 hi1 hz1 hz2 hz3 rfl (by decide) _ 0 [] rfl (World.ownsRow_nil _ _ _ _) ad l.length cap (nCs l) rfl HL.out HX.out (nCs_oneC _) (by unfold maxLen; omega) (by omega) (Nat.le_refl _) ?_; intro v7 w7 h7 h8 _; rw [Nat.zero_add, List.nil_append] at h7)
    go_ret
    exact ⟨Below.grown (Below.refl _ _) h8 (Nat.le_refl _) (fun k hk => by cases hk), v7, rfl, h7⟩

end Go.Proofs.YtmagjhidgembnaaDoor

namespace Go.Proofs.YtmagjhidgembnaaDoor
open Go.RowKit Go.Shelf

theorem OZ.snoc {B : Nat} {w0 w : World} {v : Value} {xs : List Int} {y : Int} (h : OZ B w0 w v (xs ++ [y])) : ∃ g c, v = .slice (some ⟨g, 0, none⟩) (xs.length + 1) c ∧ xs.length + 1 ≤ c ∧ w.cell? ⟨g, xs.length, none⟩ = some (.int .i64 y) ∧ w.frozen? ⟨g, xs.length, none⟩ = false ∧ OZ B w0 w (.slice (some ⟨g, 0, none⟩) xs.length c) xs ∧ (∀ z : Int, OZ B w0 (w.setCell ⟨g, xs.length, none⟩ (.int .i64 z)) v (xs ++ [z])) := by
  have ho := h.own
  rw [List.length_append, List.length_singleton] at ho
  obtain ⟨a, c, e, hc, hg⟩ := own_slice ho
  obtain ⟨g, rfl⟩ := hg (by omega)
  subst e
  have hcell := own_cell ho xs.length (zV y) (by simp)
  rw [List.map_append, List.map_singleton] at ho
  refine ⟨g, c, rfl, hc, hcell.1, hcell.2, ⟨?_, h.bel⟩, fun z => ?_⟩
  · have := own_short (n := xs.length) (y := zV y) ho
    exact this
  · have hs := ho.stored xs.length (zV z)
    refine ⟨?_, h.bel.grown hs.2 ?_ (own_block ho)⟩
    · rw [List.length_append, List.length_singleton, List.map_append, List.map_singleton]
      have h1 := hs.1
      rw [List.set_append_right _ _ (by simp)] at h1
      simp only [List.length_map, Nat.sub_self, List.set_cons_zero] at h1
      exact h1
    · have := (ho.lt g rfl).1
      have := (ho.lt g rfl).2
      omega

set_option maxRecDepth 100000 in
set_option maxHeartbeats 8000000 in
theorem beyond_any (v : Value) (l : List Nd) (ao : Option Addr) (cap : Nat) (w : World) (h : NR w v l ao cap) (hl : l.length ≤ 1000000000) :
    Calls Tryd.prog 4 #[v] w fun e w' => Below w.heap.size w w' ∧ ∃ b, e = .returned (.bool b) := by
  obtain ⟨rfl, hcap, _⟩ := id h
  have HN : Hid (∀ wq, Below w.heap.size w wq → NR wq (.slice ao l.length cap) l ao cap) := fun wq hq => h.below hq (Nat.le_refl _)
  clear h
  go_enter Tryd.func4, Tryd.ntmps4
  go_wp2
  go_loopw [3, 4] (fun s3 s4 wx => ∃ (k : Nat) (xs : List Int) (a3 : Option Addr) (c3 : Nat), s3 = .slice a3 xs.length c3 ∧ s4 = .int .i64 k ∧ k ≤ l.length ∧ xs.length ≤ k ∧ OZ w.heap.size w wx (.slice a3 xs.length c3) xs) (fun _ s _ => l.length - (intOf s).toNat)
  case atStart => exact ⟨0, [], none, 0, rfl, rfl, Nat.zero_le _, Nat.le_refl _, World.ownsRow_nil _ _ _ _, Below.refl _ _⟩
  case round =>
    obtain ⟨k, xs, a3, c3, rfl, rfl, hk, hx, hoz⟩ := hrel
    have HO : Hid (OZ w.heap.size w wr (.slice a3 xs.length c3) xs) := hoz
    clear hoz
    by_cases hlt : k < l.length
    · have q0 : decide ((k : Int) < (l.length : Int)) = true := decide_eq_true (by omega)
      have HCell : Hid (∀ wq, Below w.heap.size w wq → ∃ (g off : Nat) (K : Int), ao = some ⟨g, off, none⟩ ∧ wq.cell? ⟨g, off + k * 6 + 5, none⟩ = some (.int .i64 K)) := fun wq hq => by
        obtain ⟨g, off, e, hc⟩ := (HN.out wq hq).at hlt
        exact ⟨g, off, _, e, hc 5 _ (by omega) rfl⟩
      go_wp2
      go_loopw [3] (fun s3 wx => ∃ (ys : List Int) (a : Option Addr) (c : Nat), s3 = .slice a ys.length c ∧ ys.length ≤ k ∧ OZ w.heap.size w wx (.slice a ys.length c) ys) (fun s _ => lenV s)
      case atStart => exact ⟨xs, a3, c3, rfl, hx, HO.out⟩
      case round =>
        clear HO hx
        obtain ⟨ys, a, c, rfl, hy, hoz⟩ := hrel
        have HB : Hid (Below w.heap.size w wr) := hoz.bel
        obtain ⟨g, off, K, rfl, kK⟩ := HCell.out wr hoz.bel
        have HOy : Hid (OZ w.heap.size w wr (.slice a ys.length c) ys) := hoz
        clear hoz
        rcases (show ys = [] ∨ ∃ (zs : List Int) (y : Int), ys = zs ++ [y] from if e : ys = [] then .inl e else .inr (snoc_of e)) with rfl | ⟨zs, y, rfl⟩
        · simp only [List.length_nil] at HOy ⊢
          go_wp2_with (at_builtin; refine append_z (wr := wr) rfl (.tmp 43) (.tmp 49) rfl w.heap.size w _ [] K rfl HOy.out _ rfl rfl (by simp) (Nat.le_refl _) ?_; intro v5 w5 h5; rw [List.nil_append] at h5; obtain ⟨a5, c5, e5, _, _⟩ := own_slice h5.own; subst e5; have HO5 : Hid (OZ w.heap.size w w5 (.slice a5 [K].length c5) [K]) := h5; clear h5)
          go_roundw
          case rel => exact ⟨k + 1, [K], a5, c5, rfl, by go_num, by omega, by simp, HO5.out⟩
          case measure => simp [intOf]; omega
        · simp only [List.length_append, List.length_singleton] at HOy hy ⊢
          obtain ⟨g3, c', e', hc', cy, fy, hshort, hset⟩ := HOy.out.snoc
          cases e'
          have HSh : Hid (OZ w.heap.size w wr (.slice (some ⟨g3, 0, none⟩) zs.length c) zs) := hshort
          have HSe : Hid (∀ z : Int, OZ w.heap.size w (wr.setCell ⟨g3, zs.length, none⟩ (.int .i64 z)) (.slice (some ⟨g3, 0, none⟩) (zs.length + 1) c) (zs ++ [z])) := hset
          clear hshort hset
          have qz : decide ((zs.length : Int) + 1 > 0) = true := decide_eq_true (by omega)
          by_cases hy0 : y ≤ 0
          · have qy : decide (y ≤ 0) = true := decide_eq_true hy0
            clear hy0
            go_wp2
            go_roundw
            case rel => exact ⟨zs, some ⟨g3, 0, none⟩, c, by go_num, by omega, HSh.out⟩
            case measure => simp [lenV]
          · have qy : decide (y ≤ 0) = false := decide_eq_false hy0
            clear hy0
            have HSZ : Hid (wr.heap.size = (wr.setCell ⟨g3, zs.length, none⟩ (.int .i64 (wrap64 (y - 1)))).heap.size) := by show _ = _; simp
            obtain ⟨g', off', K2, e', kK2⟩ := HCell.out _ (HSe.out (wrap64 (y - 1))).bel
            cases e'
            go_wp2_with (at_builtin; refine append_z (wr := wr.setCell ⟨g3, zs.length, none⟩ (.int .i64 (wrap64 (y - 1)))) rfl (.tmp 43) (.tmp 49) rfl w.heap.size w _ (zs ++ [wrap64 (y - 1)]) K2 rfl (HSe.out (wrap64 (y - 1))) wr.heap.size HSZ.out rfl (by simp; omega) (Nat.le_refl _) ?_; intro v5 w5 h5; have HW : Hid ((zs ++ [wrap64 (y - 1)] ++ [K2]).length ≤ k + 1) := (by show _ ≤ _; simp; omega); generalize zs ++ [wrap64 (y - 1)] ++ [K2] = ws at h5 HW; obtain ⟨a5, c5, e5, _, _⟩ := own_slice h5.own; subst e5; have HO5 : Hid (OZ w.heap.size w w5 (.slice a5 ws.length c5) ws) := h5; clear h5)
            case roundEnd => exact ⟨⟨k + 1, ws, a5, c5, rfl, by go_num, by omega, HW.out, HO5.out⟩, by simp [intOf]; omega⟩
            go_ret
            exact ⟨HO5.out.bel, _, rfl⟩
    · have q0 : decide ((k : Int) < (l.length : Int)) = false := decide_eq_false (by omega)
      go_wp2
      go_ret
      exact ⟨HO.out.bel, _, rfl⟩

end Go.Proofs.YtmagjhidgembnaaDoor
