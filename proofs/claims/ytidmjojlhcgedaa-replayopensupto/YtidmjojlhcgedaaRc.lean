import Derived.Test.YtidmjojlhcgedaaRb
namespace Go.Proofs.Ytidmjojlhcgedaa
open Go.RowKit Go.Maps
open Go.Proofs (encStr)
set_option maxRecDepth 100000

/-- What has been done, as a function of what is still to come: those names that live on, or are still to come. -/
def fD (c : Int) (L : List En) (left : Lit → Bool) : List En := L.filter fun p => decide (c ≤ p.2) || left (.string p.1)

theorem fD_start (c : Int) (L : List En) : fD c L (Maps.has (bkD L)) = L := by
  refine List.filter_eq_self.2 fun p hp => ?_
  rw [any_map_key]
  simp [hasF_mem.2 ⟨p.2, hp⟩]

theorem fD_end {c : Int} {L : List En} {left : Lit → Bool} (h : ∀ kl, left kl = false) : fD c L left = livF c L := by
  unfold fD livF
  congr 1
  funext p
  simp [h]

theorem fD_stay {c e : Int} {L : List En} {left : Lit → Bool} {x : List UInt8} (h : Srt L) (hm : (x, e) ∈ L) (hc : c ≤ e) : fD c L (fun z => left z && !z.sameKey (.string x)) = fD c L left := by
  refine List.filter_congr fun p hp => ?_
  by_cases hx : p.1 = x
  · have := h.uniq hp hm hx
    subst this
    simp [hc]
  · have hy : (p.1 == x) = false := by simpa using hx
    simp [Lit.sameKey, hy]

theorem fD_go {c e : Int} {L : List En} {left : Lit → Bool} {x : List UInt8} (h : Srt L) (hm : (x, e) ∈ L) (hc : ¬ c ≤ e) : (fD c L left).filter (fun p => !(p.1 == x)) = fD c L (fun z => left z && !z.sameKey (.string x)) := by
  unfold fD
  rw [List.filter_filter]
  refine List.filter_congr fun p hp => ?_
  by_cases hx : p.1 = x
  · have := h.uniq hp hm hx
    subst this
    simp [hc, Lit.sameKey]
  · have hy : (p.1 == x) = false := by simpa using hx
    simp [Lit.sameKey, hy]

theorem fD_mem {c e : Int} {L : List En} {left : Lit → Bool} {x : List UInt8} (h : Srt L) (he : endF x (fD c L left) = some e) : (x, e) ∈ L :=
  (List.mem_filter.1 ((endF_some (h.filter _)).1 he)).1

theorem strInv (key : Value) (kl : Lit) (h : keyOf Try.prog 9 key = some kl) : ∃ x : List UInt8, key = encStr x := by
  obtain ⟨x, hx, _⟩ := Maps.keyOf_str Try.underlying9 h
  exact ⟨x, hx⟩
theorem i64Inv (v : Value) (y : DataW Unit × List MemPlace) (h : plainElem Try.prog 2 v = some y) : ∃ c : Int, v = Value.int .i64 c := by
  obtain ⟨c, rfl, _⟩ := plainElem_int_inv Try.underlying2 h
  exact ⟨c, rfl⟩

set_option maxHeartbeats 2000000 in
theorem moveTo_any (bb mb : Nat) (b : Bk) (now : Int) (w : World) (h : Bok w bb mb b) (hs : Srt b.L) :
    Calls Try.prog 30 #[.pointer (some ⟨bb, 0, none⟩), .int .i64 now] w fun e w' => (∃ v, e = .returned v) ∧ Bok w' bb mb ⟨true, now, livF now b.L⟩ ∧ Chf (fun k => k = bb ∨ k = mb) w w' := by
  have hne := h.ne
  have c0 := h.cells.cell 0 (by simp)
  simp only [List.getElem_cons_zero] at c0
  have c1 := h.cells.cell 1 (by simp)
  have c2 := h.cells.cell 2 (by simp)
  simp only [List.getElem_cons_zero, List.getElem_cons_succ] at c1 c2
  have f1 := h.cells.frozen 1
  have f2 := h.cells.frozen 2
  obtain ⟨w1, hw1⟩ : ∃ w1, (w.setCell ⟨bb, 1, none⟩ (.int .i64 now)).setCell ⟨bb, 2, none⟩ (.bool true) = w1 := ⟨_, rfl⟩
  have hB1 : Hid (Bl 63 w1 bb [.map (some mb), .int .i64 now, .bool true]) := by subst hw1; exact (h.cells.set 1 _).set 2 _
  have hC1 : Hid (Chf (fun k => k = bb ∨ k = mb) w w1) := by subst hw1; exact ((Chf.refl _ w).set (.inl (.inl rfl)) _).set (.inl (.inl rfl)) _
  have hown : w1.ownsMap Try.prog 9 (plainElem Try.prog 2) mb b.L.length (bkD b.L) := by
    subst hw1
    exact (h.own.setCell (a := ⟨bb, 1, none⟩) (fun e => hne e.symm) _).setCell (a := ⟨bb, 2, none⟩) (fun e => hne e.symm) _
  have d0 := hB1.out.cell 0 (by simp)
  simp only [List.getElem_cons_zero] at d0
  clear h
  go_enter Try.func30, Try.ntmps30
  go_wp2_with (at_range; refine wpList_range_own _ rfl _ 61 rfl 9 2 lawK Try.underlying61 _ mb b.L.length (bkD b.L) rfl hown ?_; intro w2 hrg2 hg2 hs2)
  go_frame
  obtain ⟨r, hr⟩ : ∃ r, w1.heap.size = r := ⟨_, rfl⟩
  rw [hr] at hrg2 hs2
  have hbl : bb < r := by have := hB1.out.lt; omega
  have hC2 : Hid (Chf (fun k => k = bb ∨ k = mb) w w2) := hC1.out.grown hg2 (fun g e => by cases e)
  have hwr : Hid (w.heap.size ≤ r) := by have := hC1.out.size; rw [hr] at this; exact this
  have hB2 : Hid (Bl 63 w2 bb [.map (some mb), .int .i64 now, .bool true]) := by
    have := hB1.out
    unfold Bl at this ⊢
    rw [hg2.block bb (by omega) (by simp)]
    exact this
  rw [hr]
  clear hs2 hg2 hown d0 hw1 hC1 hB1
  go_loopw [4] (fun _ wr => ∃ (left : Lit → Bool) (cnt : Nat), wr.ranges Try.prog 9 (plainElem Try.prog 2) mb r b.L.length (bkD (fD now b.L left)) left cnt ∧ Bl 63 wr bb [.map (some mb), .int .i64 now, .bool true] ∧ Chf (fun k => k = bb ∨ k = mb) w wr)
    (fun _ wr => wr.rangeLeft mb r)
  case atStart => exact ⟨_, _, by rw [fD_start]; exact hrg2, hB2.out, hC2.out⟩
  case round =>
    obtain ⟨left, cnt, hrg, hB, hC⟩ := hrel
    have hBh : Hid (Bl 63 wr bb [.map (some mb), .int .i64 now, .bool true]) := hB
    have hCh : Hid (Chf (fun k => k = bb ∨ k = mb) w wr) := hC
    clear hB hC hB2 hC2 hrg2
    go_wp2_with (at_next; refine wpList_next_ranges _ rfl _ rfl 9 lawK (plainElem Try.prog 2) encStr (Value.int .i64) strInv i64Inv mb r b.L.length _ _ _ rfl hrg ?_ ?_)
    · intro _ hl0
      go_wp2
      go_end0
      refine ⟨⟨_, rfl⟩, ⟨hBh.out, ?_, hne⟩, hCh.out⟩
      have := map_tight hrg.owns
      rw [fD_end hl0, size_bkD] at this
      exact this
    · intro x c kl yd yp w3 cnt3 hkey hlk hv hat hrg3 hlt hg3 hs3 hen
      obtain ⟨x', ex, rfl, hxl⟩ := Maps.keyOf_str Try.underlying9 hkey
      obtain rfl : x = x' := encStr_inj ex
      have hm : Hid ((x, c) ∈ b.L) := by
        obtain ⟨c', ec, hyd, _⟩ := plainElem_int_inv Try.underlying2 hv
        cases ec
        simp only [Prod.mk.injEq] at hyd
        refine fD_mem (c := now) (left := left) hs ?_
        have h1 := hat .nil
        rw [hyd.1, at_bkD] at h1
        revert h1
        cases endF x (fD now b.L left) with
        | none => intro h1; cases h1
        | some e => intro h1; simp at h1; exact congrArg some h1
      have hB3 : Hid (Bl 63 w3 bb [.map (some mb), .int .i64 now, .bool true]) := by
        have := hBh.out
        have hlt := this.lt
        unfold Bl at this ⊢
        rw [hg3.block bb hlt (fun e => by cases e; omega)]
        exact this
      have hC3 : Hid (Chf (fun k => k = bb ∨ k = mb) w w3) := hCh.out.grown hg3 (fun g e => by cases e; exact .inr hwr.out)
      have d0 := hB3.out.cell 0 (by simp)
      simp only [List.getElem_cons_zero] at d0
      have hle : cnt3 < cnt := hlt
      clear hBh hCh hs3 ex hlt hat hv
      go_wp2_with (at_delete; refine wpList_delete_ranges _ rfl _ _ 61 9 rfl 2 lawK Try.underlying61 _ mb r b.L.length _ _ _ rfl hrg3 _ _ rfl hkey ?_; intro w4 cnt4 hrg4 hle4 hturn; go_frame)
      · have hc0 : ¬ now ≤ c := by
          have : c < now := by first | assumption | simpa using (by assumption : decide (c < now) = true)
          omega
        rw [strike_twice] at hrg4
        have hD : (bkD (fD now b.L left)).del (.string x) = bkD (fD now b.L fun z => left z && !z.sameKey (.string x)) := by rw [del_bkD, fD_go hs hm.out hc0]
        rw [hD] at hrg4
        have hB4 : Bl 63 w4 bb [.map (some mb), .int .i64 now, .bool true] := by
          have := hB3.out
          have hlt := this.lt
          unfold Bl at this ⊢
          rw [hturn.grown.block bb hlt (fun e => hne (by cases e; rfl))]
          exact this
        go_roundw
        case rel => exact ⟨_, cnt4, hrg4, hB4, hC3.out.grown hturn.grown (fun g e => by cases e; exact .inl (.inr rfl))⟩
        case measure => rw [hrg4.left_eq, hrg.left_eq]; omega
      · have hc0 : now ≤ c := by assumption
        go_roundw
        case rel => exact ⟨_, cnt3, by rw [fD_stay hs hm.out hc0]; exact hrg3, hB3.out, hC3.out⟩
        case measure => rw [hrg3.left_eq, hrg.left_eq]; omega

end Go.Proofs.Ytidmjojlhcgedaa
