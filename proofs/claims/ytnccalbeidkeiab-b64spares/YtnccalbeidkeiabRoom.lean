import Derived.Test.YtnccalbeidkeiabSame
import Derived.Laws.CopyOwn
namespace Go.Proofs.Ytnccalbeidkeiab
open Go.RowKit

theorem Try.sizeB : (Try.prog.info? 5).map (·.size) = some 1 := by kernel_rfl

/-- A row of one's own, its block. -/
theorem own_heap {w : World} {base g n : Nat} {xs : List Value} (h : w.ownsRow base 5 1 (.slice (some ⟨g, 0, none⟩) n n) n xs) : w.heap[g]? = some (.cells xs.toArray 5 (0, 0)) := by
  rcases h.2 with ⟨h0, _⟩ | ⟨g', cap, cur, e, hb, hg, hn, hm, hs, ht⟩
  · cases h0
  · cases e
    rw [hg]
    have : cur.toList = xs := by rw [← ht]; exact (List.take_of_length_le (by simp; omega)).symm
    rw [← this]

theorem heap_own {w : World} {base g n : Nat} {xs : List Value} (h : w.heap[g]? = some (.cells xs.toArray 5 (0, 0))) (hb : base ≤ g) (hl : xs.length = n) (hm : n ≤ maxLen) : w.ownsRow base 5 1 (.slice (some ⟨g, 0, none⟩) n n) n xs :=
  ⟨by omega, .inr ⟨g, n, xs.toArray, rfl, hb, h, Nat.le_refl _, hm, by simp [hl], by simp [← hl]⟩⟩

theorem own_below {w w' : World} {base n : Nat} {v : Value} {xs : List Value} (h : w.ownsRow base 5 1 v n xs) (hb : Below w.heap.size w w') : w'.ownsRow base 5 1 v n xs := by
  refine ⟨h.1, ?_⟩
  rcases h.2 with h0 | ⟨g, cap, cur, e, hg, hh, r⟩
  · exact .inl h0
  · exact .inr ⟨g, cap, cur, e, hg, by rw [hb.block g (Array.getElem?_eq_some_iff.1 hh).1]; exact hh, r⟩

/-- What stands at the head of a row of one's own can be read. -/
theorem own_head {w : World} {base g n : Nat} {l r : List UInt8} (h : w.ownsRow base 5 1 (.slice (some ⟨g, 0, none⟩) n n) n ((l ++ r).map B)) : Rd w (some ⟨g, 0, none⟩) l := by
  have hl : (l ++ r).length = n := by have := h.1; simpa using this
  refine .inr ⟨g, 0, rfl, (h.lt g rfl).2, fun j hj => ?_⟩
  have hj2 : j < n := by rw [List.length_append] at hl; omega
  rw [Nat.zero_add, h.cellAt j (by omega)]
  rw [List.getElem?_map, List.getElem?_append_left hj, List.getD_eq_getElem?_getD, List.getElem?_eq_getElem hj]
  rfl

/-- copy of bytes that can be read, to the head of a row of one's own. -/
theorem copy_run (w : World) (base g N c : Nat) (ao : Option Addr) (l r : List UInt8) (hown : w.ownsRow base 5 1 (.slice (some ⟨g, 0, none⟩) N N) N (r.map B)) (hrd : Rd w ao l) (hlr : l.length ≤ N) :
    ∃ w1, (Builtin.copy_ #[23, 23] 3 #[.slice (some ⟨g, 0, none⟩) N N, .slice ao l.length c]).run Try.prog w = .ok (goInt l.length) w1 ∧ w1.ownsRow base 5 1 (.slice (some ⟨g, 0, none⟩) N N) N ((l ++ r.drop l.length).map B) ∧ Below base w w1 := by
  have hh := own_heap hown
  have hrl : r.length = N := by have := hown.1; simpa using this
  have hm : N ≤ maxLen := by
    rcases hown.2 with ⟨h0, _⟩ | ⟨g', cap, cur, e, hb, hg, hn, hm, hs, ht⟩
    · cases h0
    · cases e; exact hm
  have hbg : base ≤ g := (hown.lt g rfl).1
  have hmin : Nat.min l.length N = l.length := Nat.min_eq_left hlr
  by_cases h0 : l = []
  · subst h0
    refine ⟨w, run_copy_none w 23 23 3 5 _ _ _ _ _ _ Try.underlying23 Try.sizeB hmin, by simpa using hown, Below.refl _ _⟩
  · rcases hrd with h1 | ⟨b, off, rfl, hb, hc⟩
    · exact absurd h1 h0
    · have hrun := run_copy_row (P := Try.prog) w 23 23 3 5 g 0 N N ⟨b, off, none⟩ l.length c (r.map B).toArray 5 (l.map B) Try.underlying23 Try.sizeB hh (by simpa using hmin.symm) (fun j v hj => by
        have hj' : j < l.length := by
          have := (List.getElem?_eq_some_iff.1 hj).1
          simpa using this
        rw [Addr.add_lit, hc j hj']
        simp [List.getElem?_map, List.getElem?_eq_getElem hj'] at hj
        rw [← hj, List.getD_eq_getElem?_getD, List.getElem?_eq_getElem hj', Option.getD_some]) (by simp; omega) (oneB l)
      rw [List.length_map] at hrun
      refine ⟨_, hrun, ?_, ⟨rfl, rfl, rfl, by simp [World.setRow], fun k hk => setRow_other w g k _ (by omega)⟩⟩
      refine heap_own ?_ hbg (by simp; omega) hm
      rw [setRow_heap w g (r.map B).toArray _ 5 (0, 0) hh]
      simp [List.map_drop]

set_option maxHeartbeats 1000000 in
theorem roomy_any (ao : Option Addr) (c : Nat) (l : List UInt8) (w : World) (hrd : Rd w ao l) (hl : l.length ≤ 140737488355328) :
    Calls Try.prog 8 #[.slice ao l.length c] w fun e w' =>
      e = .returned (.slice (some ⟨w.heap.size, 0, none⟩) l.length (l.length + 9)) ∧ w'.ownsRow w.heap.size 5 1 (.slice (some ⟨w.heap.size, 0, none⟩) (l.length + 9) (l.length + 9)) (l.length + 9) ((l ++ List.replicate 9 165).map B) ∧ Below w.heap.size w w' := by
  obtain ⟨i0, hi, hz0, hz1, hz2⟩ := info_parts Try.infoB
  have HR : Hid (Rd w ao l) := hrd
  clear hrd
  go_enter Try.func8, Try.ntmps8
  go_wp2_with (at_make; refine wpList_make_full _ rfl _ _ 23 rfl w.heap.size 5 i0 (.int .u8 0) 1 Try.underlying23 hi hz0 hz1 _ _ _ _ (l.length + 9) rfl rfl (by omega) (by omega) ?b2 ?b3 (Nat.le_refl _) ?_)
  case b2 => rw [hz2]; omega
  case b3 => unfold maxLen; omega
  intro w0 hown0 hgrow0
  have hb0 : Below w.heap.size w w0 := (Below.refl _ _).grown hgrow0 (Nat.le_refl _) (fun k h => by cases h)
  have hmc : (madeCells #[Value.int .u8 0] (l.length + 9)).toList = (List.replicate (l.length + 9) (0 : UInt8)).map B := by
    rw [toList_madeCells_one, List.map_replicate]
    rfl
  rw [hmc] at hown0
  obtain ⟨w1, hcp, hown1, hb1⟩ := copy_run w0 w.heap.size w.heap.size (l.length + 9) c ao l (List.replicate (l.length + 9) 0) hown0 (HR.out.below hb0 (Nat.le_refl _)) (by omega)
  have e1 : l ++ (List.replicate (l.length + 9) (0 : UInt8)).drop l.length = l ++ List.replicate 9 0 := by simp
  rw [e1] at hown1
  have hB1 : Below w.heap.size w w1 := hb0.trans hb1
  clear hmc hown0 e1 hb0 hb1
  go_wp2
  clear hcp
  go_loopw [4] (fun s wr => ∃ k : Nat, k ≤ 9 ∧ s = .int .i64 ((l.length + k : Nat) : Int) ∧ wr.ownsRow w.heap.size 5 1 (.slice (some ⟨w.heap.size, 0, none⟩) (l.length + 9) (l.length + 9)) (l.length + 9) ((l ++ (List.replicate k 165 ++ List.replicate (9 - k) 0)).map B) ∧ Below w.heap.size w wr) (fun s _ => l.length + 9 - (intOf s).toNat)
  case atStart => exact ⟨0, by omega, rfl, by simpa using hown1, hB1⟩
  case round =>
    obtain ⟨k, hk, rfl, hown, hbl⟩ := hrel
    by_cases hlt : k < 9
    · have hcell : wr.cell? ⟨w.heap.size, l.length + k, none⟩ = some (.int .u8 0) := by
        rw [hown.cellAt (l.length + k) (by omega), List.getElem?_map, List.getElem?_append_right (by omega), List.getElem?_append_right (by simp), List.getElem?_replicate, if_pos (by simp; omega)]
        rfl
      have hfrz : wr.frozen? ⟨w.heap.size, l.length + k, none⟩ = false := hown.frozenAt _
      go_wp2
      have hst := (hown.stored (l.length + k) (.int .u8 165)).1
      refine ⟨⟨k + 1, by omega, by go_num, ?_, hbl.setCell (Nat.le_refl _) _⟩, by simp [intOf]; omega⟩
      have e2 : ((l ++ (List.replicate k (165 : UInt8) ++ List.replicate (9 - k) 0)).map B).set (l.length + k) (.int .u8 165) = (l ++ (List.replicate (k + 1) 165 ++ List.replicate (9 - (k + 1)) 0)).map B := by
        have e3 : (.int .u8 165 : Value) = B 165 := rfl
        rw [e3, ← List.map_set]
        congr 1
        rw [List.set_append_right _ _ (by omega), Nat.add_sub_cancel_left, List.set_append_right _ _ (by simp)]
        congr 1
        rw [List.length_replicate, Nat.sub_self, show 9 - k = (9 - (k + 1)) + 1 by omega, List.replicate_succ, List.set_cons_zero, List.replicate_succ', List.append_assoc]
        rfl
      rw [e2] at hst
      exact hst
    · obtain rfl : k = 9 := by omega
      go_wp2
      go_ret
      exact ⟨rfl, by simpa using hown, hbl⟩

end Go.Proofs.Ytnccalbeidkeiab
