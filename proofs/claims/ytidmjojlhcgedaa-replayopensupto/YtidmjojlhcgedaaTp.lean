import Derived.Test.YtidmjojlhcgedaaTo
namespace Go.Proofs.Ytidmjojlhcgedaa
open Go.RowKit Go.Maps
set_option maxRecDepth 100000

theorem mark_to {j : Nat} (h : j < 60) : ((UInt8.ofNat (100 + j)).toNat : Int) = 100 + (j : Int) := by
  rw [UInt8.toNat_ofNat', Nat.mod_eq_of_lt (by omega)]
  omega

set_option maxHeartbeats 2000000 in
theorem marked_any (ao : Option Addr) (cap : Nat) (l : List UInt8) (w : World) (hr0 : Rd w ao l) (hl : l.length ≤ 10000000) :
    Calls Try.prog 23 #[.slice ao l.length cap] w fun e w' => ∃ g c, e = .returned (.slice (some ⟨g, 0, none⟩) l.length c) ∧ Owb w' w.heap.size (.slice (some ⟨g, 0, none⟩) (l.length + 60) c) (l ++ marks 60) ∧ Below w.heap.size w w' := by
  have hr : Hid (Rd w ao l) := hr0
  clear hr0
  go_enter Try.func23, Try.ntmps23
  go_wp2_with fail
  go_loopw [3, 4] (fun s3 s wr => ∃ i : Nat, s = .int .i64 (i : Int) ∧ i ≤ l.length ∧ Owb wr w.heap.size s3 (l.take i) ∧ Below w.heap.size w wr) (fun _ s _ => l.length - (intOf s).toNat)
  case atStart => exact ⟨0, rfl, Nat.zero_le _, Owb.nil _ _, Below.refl _ _⟩
  case round =>
    obtain ⟨i, rfl, hi, hO', hb'⟩ := hrel
    have hO : Hid (Owb wr w.heap.size _ (l.take i)) := hO'
    have hb : Hid (Below w.heap.size w wr) := hb'
    clear hO' hb'
    by_cases hlt : i < l.length
    · rcases (hr.out.below hb.out (Nat.le_refl _)) with h0 | ⟨g, off, rfl, _, hc⟩
      · rw [h0] at hlt; simp at hlt
      have c0 := hc i hlt
      have hli : (l.take i).length = i := by rw [List.length_take]; omega
      have hst : Hid (l.take (i + 1) = l.take i ++ [l.getD i 0]) := by show _ = _; rw [List.take_succ_eq_append_getElem hlt, getD_eq _ _ hlt]
      clear hc
      unfold B at c0
      generalize l.getD i 0 = z at c0 hst
      have hlih : Hid ((l.take i).length = i) := hli
      clear hli
      have hii : (i : Int) < (l.length : Int) := by omega
      go_wp2_with (at_builtin; refine append_bl rfl (.tmp 12) (.tmp 17) rfl w.heap.size _ (l.take i) z _ rfl i hlih.out rfl hO.out rfl (by omega) hb.out.size ?_; intro g7 c7 w7 h7 hc7 _ _; have hO7 : Hid (Owb w7 w.heap.size (.slice (some ⟨g7, 0, none⟩) (i + 1) c7) (l.take (i + 1))) := by { rw [hst.out]; exact h7 }; have hb7 : Hid (Below w.heap.size w w7) := chf_new hb.out hc7.c (own_block hO.out); clear h7 hc7)
      go_roundw
      case rel => exact ⟨i + 1, by go_num, by omega, hO7.out, hb7.out⟩
      case measure => simp [intOf]; omega
    · obtain rfl : i = l.length := by omega
      have hO2x := hO.out
      rw [List.take_length, ← List.append_nil l] at hO2x
      have hO2 : Hid (Owb wr w.heap.size _ (l ++ marks 0)) := hO2x
      clear hO2x
      clear hO hlt hi
      go_wp2_with fail
      go_loopw [3, 5] (fun s3 s wr => ∃ j : Nat, s = .int .i64 (j : Int) ∧ j ≤ 60 ∧ Owb wr w.heap.size s3 (l ++ marks j) ∧ Below w.heap.size w wr) (fun _ s _ => 60 - (intOf s).toNat)
      case atStart => exact ⟨0, rfl, by omega, hO2.out, hb.out⟩
      case round =>
        obtain ⟨j, rfl, hj, hO', hb'⟩ := hrel
        have hO9 : Hid (Owb wr w.heap.size _ (l ++ marks j)) := hO'
        have hb9 : Hid (Below w.heap.size w wr) := hb'
        have hlj : Hid ((l ++ marks j).length = l.length + j) := by show _ = _; rw [List.length_append, marks_length]
        clear hO' hb' hO2 hb
        by_cases hlt : j < 60
        · have hjj : (j : Int) < 60 := by omega
          go_wp2_with (at_builtin; refine append_bl rfl (.tmp 23) (.tmp 27) rfl w.heap.size _ (l ++ marks j) (UInt8.ofNat (100 + j)) _ (mark_to hlt).symm (l.length + j) hlj.out rfl hO9.out rfl (by omega) hb9.out.size ?_; intro g7 c7 w7 h7 hc7 _ _; have hO7 : Hid (Owb w7 w.heap.size (.slice (some ⟨g7, 0, none⟩) (l.length + j + 1) c7) (l ++ marks (j + 1))) := by { rw [marks, ← List.append_assoc]; exact h7 }; have hb7 : Hid (Below w.heap.size w w7) := chf_new hb9.out hc7.c (own_block hO9.out); clear h7 hc7)
          go_roundw
          case rel => exact ⟨j + 1, by go_num, by omega, hO7.out, hb7.out⟩
          case measure => simp [intOf]; omega
        · obtain rfl : j = 60 := by omega
          obtain ⟨g7, c7, e7, _, _, hc7, _⟩ := hO9.out.addr (by rw [hlj.out]; omega)
          rw [hlj.out] at e7 hc7
          subst e7
          go_wp2_with fail
          go_ret
          exact ⟨g7, c7, rfl, hO9.out, hb9.out⟩

set_option maxHeartbeats 2000000 in
theorem wholem_any (g c : Nat) (base : Nat) (ao : Option Addr) (cap : Nat) (l : List UInt8) (w : World) (hO0 : Owb w base (.slice (some ⟨g, 0, none⟩) (l.length + 60) c) (l ++ marks 60)) (hr0 : Rd w ao l) (hl : l.length ≤ 10000000) :
    Calls Try.prog 25 #[.slice (some ⟨g, 0, none⟩) l.length c, .slice ao l.length cap] w fun e w' => e = .returned (.bool true) ∧ ∃ q, w' = w.drewN q := by
  have hO : Hid (Owb w base (.slice (some ⟨g, 0, none⟩) (l.length + 60) c) (l ++ marks 60)) := hO0
  obtain ⟨hc60, _, _, hgl⟩ := hO0.room
  have hr1 : Rd w (some ⟨g, 0, none⟩) l := by
    refine .inr ⟨g, 0, rfl, hgl, fun j hj => ?_⟩
    have := hO0.cell (j := j) (by rw [List.length_append]; omega)
    rw [Nat.zero_add, this, List.getD_eq_getElem?_getD, List.getElem?_append_left hj, ← List.getD_eq_getElem?_getD]
    rfl
  have SC := same_any (some ⟨g, 0, none⟩) ao c cap l l w hr1 hr0 (by omega)
  rw [show decide (l = l) = true by simp] at SC
  clear hr1 hr0 hO0 hgl
  obtain ⟨n, hn⟩ : ∃ n, l.length = n := ⟨_, rfl⟩
  have hcell : Hid (∀ j, j < 60 → w.cell? ⟨g, n + j, none⟩ = some (.int .u8 (100 + (j : Int)))) := fun j hj => by
    have := hO.out.cell (j := l.length + j) (by rw [List.length_append, marks_length]; omega)
    rw [List.getD_eq_getElem?_getD, List.getElem?_append_right (by omega), Nat.add_sub_cancel_left, ← List.getD_eq_getElem?_getD, marks_get 60 j hj, mark_to hj] at this
    rw [← hn]
    exact this
  rw [hn] at SC hc60 hl ⊢
  clear hO hn
  go_enter Try.func25, Try.ntmps25
  go_wp2_with fail
  go_loopw [6] (fun s wr => ∃ j : Nat, s = .int .i64 (j : Int) ∧ j ≤ 60 ∧ wr = w) (fun s _ => 60 - (intOf s).toNat)
  case atStart => exact ⟨0, rfl, by omega, rfl⟩
  case round =>
    obtain ⟨j, rfl, hj, rfl⟩ := hrel
    by_cases hlt : j < 60
    · have c0 := hcell.out j hlt
      have hjj : (j : Int) < 60 := by omega
      go_wp2_with fail
      go_roundw
      case rel => exact ⟨j + 1, by go_num, by omega, trivial⟩
      case measure => simp [intOf]; omega
    · obtain rfl : j = 60 := by omega
      clear hlt hj
      go_wp2_with fail
      refine SC.mono ?_
      rintro e w1 ⟨rfl, q, rfl⟩
      go_wp2_with fail
      go_ret
      exact ⟨rfl, _, rfl⟩

end Go.Proofs.Ytidmjojlhcgedaa
