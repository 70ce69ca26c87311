import Derived.Test.YtibgpcheembdkaaDoorSSum
namespace Go.Proofs.YtibgpcheembdkaaDoor
open Go.RowKit

/-- What stands at the head of a block of bytes can be read. -/
theorem cl_head {w : World} {g : Nat} {l r : List UInt8} (h : Cl w g ((l ++ r).map B)) : Rd w (some ⟨g, 0, none⟩) l := by
  refine .inr ⟨g, 0, rfl, h.lt, fun j hj => ?_⟩
  rw [Nat.zero_add, h.cell j (by simp; omega), List.getElem_map, List.getElem_append_left hj, List.getD_eq_getElem?_getD, List.getElem?_eq_getElem hj]
  rfl

/-- copy of bytes that can be read, to the head of a block of one's own. -/
theorem copy_head (w : World) (g N c : Nat) (ao : Option Addr) (l r : List UInt8) (hcl : Cl w g (r.map B)) (hr : r.length = N) (hrd : Rd w ao l) (hlr : l.length ≤ N) :
    ∃ w1, (∀ q, (Builtin.copy_ #[23, 23] 3 #[.slice (some ⟨g, 0, none⟩) N N, .slice ao l.length c]).run Tryd.prog (w.drewN q) = .ok (goInt l.length) (w1.drewN q)) ∧ Cl w1 g ((l ++ r.drop l.length).map B) ∧ But w w1 g := by
  have hmin : Nat.min l.length N = l.length := Nat.min_eq_left hlr
  by_cases h0 : l = []
  · subst h0
    exact ⟨w, fun q => run_copy_none (w.drewN q) 23 23 3 5 _ _ _ _ _ _ Tryd.underlying23 (by kernel_rfl) hmin, by simpa using hcl, But.refl _ _⟩
  · rcases hrd with h1 | ⟨b, off, rfl, hb, hc⟩
    · exact absurd h1 h0
    · refine ⟨w.setCells g 0 (l.map B), fun q => ?_, ?_, But.cells _ _ _ _ (But.refl _ _)⟩
      · have h1 := run_copy_cells (P := Tryd.prog) (w.drewN q) 23 23 3 5 g 0 N N ⟨b, off, none⟩ l.length c (l.map B) Tryd.underlying23 (by kernel_rfl) (by rw [List.length_map]; exact hmin.symm) (fun j v hj => by
            obtain ⟨hj1, hj2⟩ := List.getElem?_eq_some_iff.1 hj
            have hj3 : j < l.length := by simpa using hj1
            rw [Addr.add_mid]
            show w.cell? _ = _
            rw [hc j hj3, ← hj2, List.getElem_map, List.getD_eq_getElem?_getD, List.getElem?_eq_getElem hj3]
            rfl) (fun j hj => by
            rw [List.length_map] at hj
            show (w.cell? _).isSome = true
            rw [hcl.cell (0 + j) (by rw [List.length_map]; omega)]
            rfl) (fun j _ => hcl.frozen _) (oneB l)
        rw [List.length_map, setCells_drewN] at h1
        exact h1
      · have h1 := Cl.cells (l.map B) 0 w _ hcl (by rw [List.length_map, List.length_map]; omega)
        unfold spl at h1
        rw [List.take_zero, List.nil_append, List.length_map, Nat.zero_add, ← List.map_drop, ← List.map_append] at h1
        exact h1

theorem take_iff {l1 l2 : List UInt8} {k : Nat} (h1 : k < l1.length) (h2 : k < l2.length) (h : l1.take k = l2.take k) : l1[k] = l2[k] ↔ l1.take (k + 1) = l2.take (k + 1) := by
  rw [List.take_succ_eq_append_getElem h1, List.take_succ_eq_append_getElem h2, h]
  constructor
  · intro e; rw [e]
  · intro e
    have := List.append_cancel_left e
    exact (List.cons.inj this).1

theorem ne_byte (x y : UInt8) : ((x.toNat : Int) != (y.toNat : Int)) = !decide (x = y) := by
  by_cases h : x = y
  · subst h; simp
  · have : x.toNat ≠ y.toNat := fun e => h (UInt8.toNat_inj.1 e)
    simp [h]; omega

set_option maxHeartbeats 1000000 in
theorem same_any (a1 a2 : Option Addr) (c1 c2 : Nat) (l1 l2 : List UInt8) (w : World) (hr1 : Rd w a1 l1) (hr2 : Rd w a2 l2) (hlen : l1.length ≤ 281474976710656) :
    Calls Tryd.prog 20 #[.slice a1 l1.length c1, .slice a2 l2.length c2] w fun e w' => e = .returned (.bool (decide (l1 = l2))) ∧ ∃ q, w' = w.drewN q := by
  by_cases hl : l1.length = l2.length
  · have hl' : ((l1.length : Int) != (l2.length : Int)) = false := by simp; omega
    have Hl : Hid (l1.length = l2.length) := hl
    clear hl
    go_enter Tryd.func20, Tryd.ntmps20
    go_wp2
    go_loopw [5] (fun s wr => ∃ k q : Nat, k ≤ l1.length ∧ s = .int .i64 k ∧ Hid (l1.take k = l2.take k) ∧ wr = w.drewN q) (fun s _ => l1.length - (intOf s).toNat)
    case atStart => exact ⟨0, 0, Nat.zero_le _, rfl, rfl, rfl⟩
    case round =>
      obtain ⟨k, q, hk, rfl, Ht, rfl⟩ := hrel
      by_cases hlt : k < l1.length
      · rcases hr1 with hr1 | ⟨b1, o1, rfl, hb1, hc1⟩
        · subst hr1; simp at hlt
        rcases hr2 with hr2 | ⟨b2, o2, rfl, hb2, hc2⟩
        · subst hr2; have h := Hl.out; rw [List.length_nil] at h; omega
        have hlt2 : k < l2.length := by have := Hl.out; omega
        have g1 := hc1 k hlt
        have g2 := hc2 k hlt2
        rw [List.getD_eq_getElem?_getD, List.getElem?_eq_getElem hlt, Option.getD_some] at g1
        rw [List.getD_eq_getElem?_getD, List.getElem?_eq_getElem hlt2, Option.getD_some] at g2
        have Hx : Hid (l1[k] = l2[k] ↔ l1.take (k + 1) = l2.take (k + 1)) := take_iff hlt hlt2 Ht.out
        unfold B at g1 g2
        clear hc1 hc2
        generalize l1[k] = x at g1 Hx
        generalize l2[k] = y at g2 Hx
        have hltI : (k : Int) < (l2.length : Int) := by omega
        have hne := ne_byte x y
        by_cases hxy : x = y
        · have hd : ((x.toNat : Int) != (y.toNat : Int)) = false := by rw [hne]; simp [hxy]
          have Ht1 : Hid (l1.take (k + 1) = l2.take (k + 1)) := Hx.out.1 hxy
          clear hne hxy Hx
          go_wp2
          go_quiet (fail)
          go_wp2
          go_roundw
          case rel => exact ⟨k + 1, _, by omega, by go_num, Ht1, rfl⟩
          case measure => simp [intOf]; omega
        · have hd : ((x.toNat : Int) != (y.toNat : Int)) = true := by rw [hne]; simp [hxy]
          have Hf : Hid (decide (l1 = l2) = false) := by
            show decide (l1 = l2) = false
            rw [decide_eq_false_iff_not]
            intro e
            exact hxy (Hx.out.2 (by rw [e]))
          clear hne hxy Hx
          go_wp2
          go_quiet (fail)
          go_wp2
          go_ret
          rw [Hf.out]
          exact ⟨rfl, _, World.drewN_drewN _ _ _⟩
      · have He : Hid (decide (l1 = l2) = true) := by
          show decide (l1 = l2) = true
          have h1 := Ht.out
          have h2 := Hl.out
          rw [List.take_of_length_le (by omega), List.take_of_length_le (by omega)] at h1
          simpa using h1
        clear hr1 hr2
        go_wp2
        go_ret
        rw [He.out]
        exact ⟨rfl, _, rfl⟩
  · have hl' : ((l1.length : Int) != (l2.length : Int)) = true := by simp; omega
    have Hf : Hid (decide (l1 = l2) = false) := by show _ = _; simp; intro e; subst e; exact hl rfl
    clear hl
    go_enter Tryd.func20, Tryd.ntmps20
    go_wp2
    go_ret
    rw [Hf.out]
    exact ⟨rfl, 0, rfl⟩


set_option maxHeartbeats 1000000 in
theorem roomy_any (ao : Option Addr) (c : Nat) (l : List UInt8) (w : World) (hrd : Rd w ao l) (hl : l.length ≤ 100000000) :
    Calls Tryd.prog 19 #[.slice ao l.length c] w fun e w' =>
      e = .returned (.slice (some ⟨w.heap.size, 0, none⟩) l.length (l.length + 9)) ∧ Cl w' w.heap.size ((l ++ List.replicate 9 165).map B) ∧ Below w.heap.size w w' := by
  have HR : Hid (Rd w ao l) := hrd
  obtain ⟨w0, hmk0, hc0, hb0⟩ := made w (l.length + 9) (by omega)
  have hmk : (Instr.makeSlice 23 (.int .i64 ((l.length : Int) + 9)) (.int .i64 ((l.length : Int) + 9))).run Tryd.prog w = .ok (.slice (some ⟨w.heap.size, 0, none⟩) (l.length + 9) (l.length + 9)) w0 := hmk0
  obtain ⟨w1, hcp0, hc1, hb1⟩ := copy_head w0 w.heap.size (l.length + 9) c ao l (List.replicate (l.length + 9) 0) hc0.cl (by simp) (hrd.below hb0 (Nat.le_refl _)) (by omega)
  have hcp := hcp0 0
  have e1 : l ++ (List.replicate (l.length + 9) (0 : UInt8)).drop l.length = l ++ List.replicate 9 0 := by simp
  rw [e1] at hc1
  have HC1 : Hid (Cl w1 w.heap.size ((l ++ (List.replicate 0 165 ++ List.replicate (9 - 0) 0)).map B)) := by
    show Cl _ _ _
    simpa using hc1
  have HB1 : Hid (Below w.heap.size w w1) := hb0.trans (hb1.below hb0.size (Nat.le_refl _))
  clear hmk0 hcp0 hc0 hb0 hc1 hb1 e1 hrd
  rw [show w0.drewN 0 = w0 from rfl, show w1.drewN 0 = w1 from rfl] at hcp
  go_enter Tryd.func19, Tryd.ntmps19
  go_wp2
  clear hcp hmk
  go_loopw [4] (fun s wr => ∃ k : Nat, k ≤ 9 ∧ s = .int .i64 ((l.length + k : Nat) : Int) ∧ Hid (Cl wr w.heap.size ((l ++ (List.replicate k 165 ++ List.replicate (9 - k) 0)).map B)) ∧ Hid (Below w.heap.size w wr)) (fun s _ => l.length + 9 - (intOf s).toNat)
  case atStart => exact ⟨0, by omega, rfl, HC1, HB1⟩
  case round =>
    clear HC1 HB1
    obtain ⟨k, hk, rfl, hcl, hbl⟩ := hrel
    by_cases hlt : k < 9
    · have gf := hcl.out.frozen (l.length + k)
      obtain ⟨old, gc⟩ : ∃ v, wr.cell? ⟨w.heap.size, l.length + k, none⟩ = some v := ⟨_, hcl.out.cell (l.length + k) (by simp; omega)⟩
      go_wp2
      refine ⟨⟨k + 1, by omega, by go_num, ?_, hbl.out.setCell (Nat.le_refl _) _⟩, by simp [intOf]; omega⟩
      have hst := hcl.out.set (l.length + k) (B 165)
      have e2 : ((l ++ (List.replicate k (165 : UInt8) ++ List.replicate (9 - k) 0)).map B).set (l.length + k) (B 165) = (l ++ (List.replicate (k + 1) 165 ++ List.replicate (9 - (k + 1)) 0)).map B := by
        rw [← List.map_set]
        congr 1
        rw [List.set_append_right _ _ (by omega), Nat.add_sub_cancel_left, List.set_append_right _ _ (by simp)]
        congr 1
        rw [List.length_replicate, Nat.sub_self, show 9 - k = (9 - (k + 1)) + 1 by omega, List.replicate_succ, List.set_cons_zero, List.replicate_succ', List.append_assoc]
        rfl
      rw [e2] at hst
      exact hst
    · obtain rfl : k = 9 := by omega
      go_wp2
      go_ret
      exact ⟨rfl, by simpa using hcl.out, hbl.out⟩

set_option maxHeartbeats 1000000 in
theorem spared_any (g c n : Nat) (ao : Option Addr) (l : List UInt8) (w : World) (hn : n = l.length) (hown : Cl w g ((l ++ List.replicate 9 165).map B)) (hrd : Rd w ao l) (hl : n ≤ 140737488355328) :
    Calls Tryd.prog 27 #[.slice (some ⟨g, 0, none⟩) n (n + 9), .slice ao n c] w fun e w' => e = .returned (.bool true) ∧ ∃ q, w' = w.drewN q := by
  have HR : Hid (Rd w ao l) := hrd
  have HO : Hid (Rd w (some ⟨g, 0, none⟩) l) := cl_head hown
  have Hn : Hid (n = l.length) := hn
  have Hc : Hid (∀ k, k < 9 → w.cell? ⟨g, n + k, none⟩ = some (.int .u8 165)) := fun k hk => by
    rw [hown.cell (n + k) (by simp; omega), List.getElem_map, List.getElem_append_right (by omega), List.getElem_replicate]
    rfl
  clear hrd hown hn
  go_enter Tryd.func27, Tryd.ntmps27
  go_wp2
  go_loop [6] (fun s => ∃ k : Nat, k ≤ 9 ∧ s = .int .i64 ((n + k : Nat) : Int)) (fun s => n + 9 - (intOf s).toNat)
  case atStart => exact ⟨0, by omega, rfl⟩
  case round =>
    obtain ⟨k, hk, rfl⟩ := hrel
    by_cases hlt : k < 9
    · have hcell := Hc.out k hlt
      go_wp2
      go_round
      case rel => exact ⟨k + 1, by omega, by go_num⟩
      case measure => simp [intOf]; omega
    · go_wp2_with fail
      have S := same_any (some ⟨g, 0, none⟩) ao (n + 9) c l l w HO.out HR.out (by have := Hn.out; omega)
      rw [← Hn.out, decide_eq_true (rfl : l = l)] at S
      refine S.mono ?_
      rintro e w' ⟨rfl, q, hq⟩
      clear S
      have HQ : Hid (w' = w.drewN q) := hq
      clear hq
      go_wp2
      go_ret
      exact ⟨rfl, q, HQ.out⟩


/-- The place that a number picks among n. -/
def pk (x : Int) (n : Nat) : Nat := (x % (n : Int)).toNat
theorem pk_lt (x : Int) (n : Nat) (hn : 0 < n) : pk x n < n := by
  unfold pk
  have h1 := Int.emod_nonneg x (b := (n : Int)) (by omega)
  have h2 := Int.emod_lt_of_pos x (b := (n : Int)) (by omega)
  omega

set_option maxHeartbeats 1000000 in
theorem pick_any (x : Int) (n : Nat) (w : World) (hn : 0 < n) (hn2 : n ≤ 1000000000) (_h0 : -9223372036854775808 ≤ x) (_h1 : x ≤ 9223372036854775807) :
    Calls Tryd.prog 23 #[.int .i64 x, .int .i64 (n : Int)] w fun e w' => e = .returned (.int .i64 (pk x n)) ∧ w' = w := by
  obtain ⟨t, ht⟩ : ∃ t, Int.tmod x (n : Int) = t := ⟨_, rfl⟩
  have hx := Int.tmod_eq_emod (a := x) (b := (n : Int))
  have e1 := Int.emod_nonneg x (b := (n : Int)) (by omega)
  have e2 := Int.emod_lt_of_pos x (b := (n : Int)) (by omega)
  have hcase : (0 ≤ t ∧ x % (n : Int) = t) ∨ (t < 0 ∧ x % (n : Int) = t + n) := by
    rw [ht] at hx
    split at hx <;> omega
  rcases hcase with ⟨ht0, he⟩ | ⟨ht0, he⟩
  · have Hp : Hid (True → ((pk x n : Nat) : Int) = t) := fun _ => by unfold pk; rw [he]; omega
    clear hx he
    go_enter Tryd.func23, Tryd.ntmps23
    go_wp2
    go_ret
    rw [Hp.out trivial]
    exact ⟨rfl, rfl⟩
  · have Hp : Hid (True → ((pk x n : Nat) : Int) = t + n) := fun _ => by unfold pk; rw [he]; omega
    rw [he] at e1 e2
    clear hx he
    go_enter Tryd.func23, Tryd.ntmps23
    go_wp2
    go_ret
    rw [Hp.out trivial]
    exact ⟨rfl, rfl⟩

end Go.Proofs.YtibgpcheembdkaaDoor
