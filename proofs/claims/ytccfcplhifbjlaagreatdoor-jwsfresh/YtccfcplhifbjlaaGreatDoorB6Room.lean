import Derived.Test.YtccfcplhifbjlaaGreatDoorB6Same
import Derived.Laws.CopyOwn
namespace Go.Proofs.YtccfcplhifbjlaaGreatDoor.B64
open Go.RowKit
set_option maxRecDepth 100000

theorem Tryz.sizeB : (Tryz.prog.info? 5).map (·.size) = some 1 := by kernel_rfl

/-- A row of one's own, its block. -/
theorem own_heap {w : World} {base g n : Nat} {xs : List Value} (h : w.ownsRow base 5 1 (.slice (some ⟨g, 0, none⟩) n n) n xs) : w.heap[g]? = some (.cells xs.toArray 5 (0, 0)) := by
  rcases h.2 with ⟨h0, _⟩ | ⟨g', cap, cur, e, hb, hg, hn, hm, hs, ht⟩
  · cases h0
  · cases e
    rw [hg]
    have : cur.toList = xs := by rw [← ht]; exact (List.take_of_length_le (by simp; omega)).symm
    rw [← this]

theorem heap_own {w : World} {base g n : Nat} {xs : List Value} (h : w.heap[g]? = some (.cells xs.toArray 5 (0, 0))) (hb : base ≤ g) (hl : xs.length = n) (hm : n ≤ maxLen) : w.ownsRow base 5 1 (.slice (some ⟨g, 0, none⟩) n n) n xs :=
  ⟨by omega, .inr ⟨g, n, xs.toArray, rfl, hb, h, Nat.le_refl _, hm, by simp [hl], by simp [← hl]⟩⟩

theorem own_below {w w' : World} {base n : Nat} {v : Value} {xs : List Value} (h : w.ownsRow base 5 1 v n xs) (hb : Below w.heap.size w w') : w'.ownsRow base 5 1 v n xs := by
  refine ⟨h.1, ?_⟩
  rcases h.2 with h0 | ⟨g, cap, cur, e, hg, hh, r⟩
  · exact .inl h0
  · exact .inr ⟨g, cap, cur, e, hg, by rw [hb.block g (Array.getElem?_eq_some_iff.1 hh).1]; exact hh, r⟩

/-- What stands at the head of a row of one's own can be read. -/
theorem own_head {w : World} {base g n : Nat} {l r : List UInt8} (h : w.ownsRow base 5 1 (.slice (some ⟨g, 0, none⟩) n n) n ((l ++ r).map B)) : Rd w (some ⟨g, 0, none⟩) l := by
  have hl : (l ++ r).length = n := by have := h.1; simpa using this
  refine .inr ⟨g, 0, rfl, (h.lt g rfl).2, fun j hj => ?_⟩
  have hj2 : j < n := by rw [List.length_append] at hl; omega
  rw [Nat.zero_add, h.cellAt j (by omega)]
  rw [List.getElem?_map, List.getElem?_append_left hj, List.getD_eq_getElem?_getD, List.getElem?_eq_getElem hj]
  rfl

/-- copy of bytes that can be read, to the head of a row of one's own. -/
theorem copy_run (w : World) (base g N c : Nat) (ao : Option Addr) (l r : List UInt8) (hown : w.ownsRow base 5 1 (.slice (some ⟨g, 0, none⟩) N N) N (r.map B)) (hrd : Rd w ao l) (hlr : l.length ≤ N) :
    ∃ w1, (Builtin.copy_ #[30, 30] 3 #[.slice (some ⟨g, 0, none⟩) N N, .slice ao l.length c]).run Tryz.prog w = .ok (goInt l.length) w1 ∧ w1.ownsRow base 5 1 (.slice (some ⟨g, 0, none⟩) N N) N ((l ++ r.drop l.length).map B) ∧ Below base w w1 := by
  have hh := own_heap hown
  have hrl : r.length = N := by have := hown.1; simpa using this
  have hm : N ≤ maxLen := by
    rcases hown.2 with ⟨h0, _⟩ | ⟨g', cap, cur, e, hb, hg, hn, hm, hs, ht⟩
    · cases h0
    · cases e; exact hm
  have hbg : base ≤ g := (hown.lt g rfl).1
  have hmin : Nat.min l.length N = l.length := Nat.min_eq_left hlr
  by_cases h0 : l = []
  · subst h0
    refine ⟨w, run_copy_none w 30 30 3 5 _ _ _ _ _ _ Tryz.underlying30 Tryz.sizeB hmin, by simpa using hown, Below.refl _ _⟩
  · rcases hrd with h1 | ⟨b, off, rfl, hb, hc⟩
    · exact absurd h1 h0
    · have hrun := run_copy_row (P := Tryz.prog) w 30 30 3 5 g 0 N N ⟨b, off, none⟩ l.length c (r.map B).toArray 5 (l.map B) Tryz.underlying30 Tryz.sizeB hh (by simpa using hmin.symm) (fun j v hj => by
        have hj' : j < l.length := by
          have := (List.getElem?_eq_some_iff.1 hj).1
          simpa using this
        rw [Addr.add_lit, hc j hj']
        simp [List.getElem?_map, List.getElem?_eq_getElem hj'] at hj
        rw [← hj, List.getD_eq_getElem?_getD, List.getElem?_eq_getElem hj', Option.getD_some]) (by simp; omega) (oneB l)
      rw [List.length_map] at hrun
      refine ⟨_, hrun, ?_, ⟨rfl, rfl, rfl, by simp [World.setRow], fun k hk => setRow_other w g k _ (by omega)⟩⟩
      refine heap_own ?_ hbg (by simp; omega) hm
      rw [setRow_heap w g (r.map B).toArray _ 5 (0, 0) hh]
      simp [List.map_drop]

end Go.Proofs.YtccfcplhifbjlaaGreatDoor.B64