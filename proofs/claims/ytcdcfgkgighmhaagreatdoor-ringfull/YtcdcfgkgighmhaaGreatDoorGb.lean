import Derived.Test.YtcdcfgkgighmhaaGreatDoorGa
import Derived.Deep.Cut
import Derived.WalkMore
namespace Go.Proofs.YtcdcfgkgighmhaaGreatDoor
open Go.RowKit
set_option maxRecDepth 100000

theorem chf_new {f : Nat → Prop} {w ws wr : World} (hb : Below w.heap.size w ws) (hc : Chf f ws wr) (hf : ∀ k, f k → w.heap.size ≤ k) : Below w.heap.size w wr :=
  hb.trans (hc.below hb.size hf)
/-- append of one. -/
theorem append_ks {wr : World} {ops : Array Oper} {rest : List Oper} {o : Oper} {a : Act} {Q : Exit → Act → World → Prop} (hgd : o.guard = none) (s x : Operand)
    (ho : o.op = .call { callee := .builtin .append, args := #[s, x], argTypes := #[38, 38] })
    (B0 : Nat) (v : Value) (L : List Ks) (p : Ks) (hs : a.eval s = v) (hob : Os wr B0 v L) (hx : a.eval x = .slice (some ⟨wr.heap.size, 0, none⟩) 1 1) (hl : L.length ≤ 1000000000) (hB : B0 ≤ wr.heap.size)
    (h : ∀ v' w', Os w' B0 v' (L ++ [p]) → Chf (fun k => v.ownBlock = some k) wr w' → wpList Tryz.prog ops Q rest (a.put o.dst v') w') : wpList Tryz.prog ops Q (o :: rest) a (wr.alloc (.cells #[.string ⟨p.t.toArray⟩, .int .i64 p.ver, .int .i64 p.til, .bool p.endless] 49)) := by
  obtain ⟨i, hi, hz, hsize, hby⟩ := info_parts infoK
  have hbl := alloc_bl wr (sC p) 49
  refine wpList_append_own_wide _ hgd s x 38 ho B0 49 i _ 4 40 Tryz.underlying38 hi hz hsize hby rfl (by decide) v L.length (sCs L) hs (hob.below (alloc_below wr _) (Nat.le_refl _)) ⟨wr.heap.size, 0, none⟩ 1 1 (sC p) hx rfl ?_ ?_ (by unfold maxLen; omega) (by omega) (by rw [World.size_alloc]; omega) ?_
  · intro j u hu
    have hj : j < (sC p).length := (List.getElem?_eq_some_iff.1 hu).1
    rw [Addr.add_lit, Nat.zero_add]
    have := hbl.cell j hj
    rw [List.getElem?_eq_getElem hj] at hu
    rw [← hu]
    exact this
  · intro u hu
    simp [sC] at hu
    rcases hu with rfl | rfl | rfl | rfl <;> rfl
  · intro v' w' h1 h2 _
    refine h v' w' ?_ ?_
    · unfold Os
      rw [List.length_append, show sCs (L ++ [p]) = sCs L ++ sC p by simp [sCs]]
      exact h1
    · exact ((Chf.refl _ wr).alloc _).grown h2 (fun g hg => .inl hg)
/-- A set that has no end gets one. -/
def closeK (til : Int) (s : Ks) : Ks := if s.endless then ⟨s.t, s.ver, til, false⟩ else s
def outF (now til : Int) (L : List Ks) : List Ks := (L.map (closeK til)).filter (liveK now)
theorem outF_snoc (now til : Int) (L : List Ks) (s : Ks) : outF now til (L ++ [s]) = outF now til L ++ (if liveK now (closeK til s) then [closeK til s] else []) := by
  unfold outF
  rw [List.map_append, List.filter_append]
  congr 1
  simp only [List.map_cons, List.map_nil, List.filter_cons, List.filter_nil]
theorem outF_le (now til : Int) (L : List Ks) : (outF now til L).length ≤ L.length := by
  unfold outF
  refine Nat.le_trans (List.length_filter_le _ _) ?_
  rw [List.length_map]
  exact Nat.le_refl _

set_option maxHeartbeats 4000000 in
theorem outgoing_any (rb B0 : Nat) (lk : Int) (v : Value) (L : List Ks) (last clk : Int) (has : Bool) (now til : Int) (w : World) (h : Rg w B0 rb lk v L last clk has) (hL : L.length ≤ 1000000) :
    Calls Tryz.prog 13 #[.pointer (some ⟨rb, 0, none⟩), .int .i64 now, .int .i64 til] w fun e w' => ∃ v', e = .returned v' ∧ Os w' w.heap.size v' (outF now til L) ∧ Below w.heap.size w w' := by
  have hR : Hid (Rg w B0 rb lk v L last clk has) := h
  obtain ⟨ao, cap, rfl, hrd'⟩ := h.own.rd
  have hrd : Hid (L = [] ∨ ∃ g, ao = some ⟨g, 0, none⟩ ∧ B0 ≤ g ∧ g < w.heap.size ∧ ∀ i j, i < L.length → (hj : j < 4) → w.cell? ⟨g, i * 4 + j, none⟩ = some ((sC (L.getD i ks0))[j]'hj)) := hrd'
  have d2 := h.cells.cell 2 (by simp)
  simp only [List.getElem_cons_zero, List.getElem_cons_succ] at d2
  clear h hrd'
  go_enter Tryz.func13, Tryz.ntmps13
  go_wp2_with fail
  go_loopw [7, 15] (fun s7 s wr => ∃ (i : Nat) (O : List Ks), s = .int .i64 (i : Int) ∧ i ≤ L.length ∧ Os wr w.heap.size s7 O ∧ Hid (O = outF now til (L.take i)) ∧ Below w.heap.size w wr) (fun _ s _ => L.length - (intOf s).toNat)
  case atStart => exact ⟨0, [], rfl, Nat.zero_le _, Os.nil _ _, rfl, Below.refl _ _⟩
  case round =>
    obtain ⟨i, O, rfl, hi, hO', hE, hb'⟩ := hrel
    have hO : Hid (Os wr w.heap.size _ O) := hO'
    have hb : Hid (Below w.heap.size w wr) := hb'
    have hOl : O.length ≤ 1000000000 := by
      have := outF_le now til (L.take i)
      rw [← hE.out, List.length_take] at this
      omega
    clear hO' hb'
    by_cases hlt : i < L.length
    · rcases hrd.out with h0 | ⟨g, rfl, _, hg, hc⟩
      · rw [h0] at hlt; simp at hlt
      have k : ∀ j, (hj : j < 4) → wr.cell? ⟨g, i * 4 + j, none⟩ = some ((sC (L.getD i ks0))[j]'hj) := fun j hj => cell_but (hc i j hlt hj) fun _ => hb.out.block g hg
      have c0 := k 0 (by decide)
      have c1 := k 1 (by decide)
      have c2 := k 2 (by decide)
      have c3 := k 3 (by decide)
      rw [Nat.add_zero] at c0
      simp only [sC, List.getElem_cons_zero, List.getElem_cons_succ] at c0 c1 c2 c3
      have hS : Hid (outF now til (L.take (i + 1)) = O ++ (if liveK now (closeK til (L.getD i ks0)) then [closeK til (L.getD i ks0)] else [])) := by
        show _ = _
        rw [List.take_succ_eq_append_getElem hlt, outF_snoc, hE.out, getD_eq _ _ hlt]
      clear k hc hE
      generalize L.getD i ks0 = s at c0 c1 c2 c3 hS
      obtain ⟨t, ver, tl, en⟩ := s
      dsimp only at c0 c1 c2 c3
      have hii : (i : Int) < (L.length : Int) := by omega
      cases en with
      | true =>
        have hS2 : Hid (outF now til (L.take (i + 1)) = O ++ (if liveK now ⟨t, ver, til, false⟩ then [⟨t, ver, til, false⟩] else [])) := hS.out
        clear hS
        go_upto_region 7 with fail
        obtain ⟨w1, hw1⟩ : ∃ w1, wr.alloc (.cells #[.string ⟨t.toArray⟩, .int .i64 ver, .int .i64 til, .bool false] 49) = w1 := ⟨_, rfl⟩
        have hx : Bl 49 w1 wr.heap.size [.string ⟨t.toArray⟩, .int .i64 ver, .int .i64 til, .bool false] := by rw [← hw1]; exact alloc_bl wr [_, _, _, _] 49
        have hb01 : Below wr.heap.size wr w1 := hw1 ▸ alloc_below _ _
        obtain ⟨bx, hbx⟩ : ∃ bx, wr.heap.size = bx := ⟨_, rfl⟩
        rw [hbx] at hx
        rw [hw1, hbx]
        have hO1 : Hid (Os w1 w.heap.size _ O) := hO.out.below hb01 (Nat.le_refl _)
        have hb1 : Hid (Below w.heap.size w w1) := hb.out.trans (hb01.mono hb.out.size)
        have hxh : Hid (Bl 49 w1 bx [.string ⟨t.toArray⟩, .int .i64 ver, .int .i64 til, .bool false]) := hx
        have x0 := hx.cell 0 (by simp)
        have x1 := hx.cell 1 (by simp)
        have x2 := hx.cell 2 (by simp)
        have x3 := hx.cell 3 (by simp)
        simp only [List.getElem_cons_zero, List.getElem_cons_succ] at x0 x1 x2 x3
        clear hw1 hb01 hbx hx hO hb c0 c1 c2 c3
        go_wp2_with fail
        refine (isLive_any ⟨t, ver, til, false⟩ now w1).mono ?_
        rintro e w2 ⟨rfl, hb2'⟩
        have hx2 := hxh.out.below hb2' hxh.out.lt
        have hO2 : Hid (Os w2 w.heap.size _ O) := hO1.out.below hb2' (Nat.le_refl _)
        have hb2 : Hid (Below w.heap.size w w2) := hb1.out.trans (hb2'.mono hb1.out.size)
        have y0 := hx2.cell 0 (by simp)
        have y1 := hx2.cell 1 (by simp)
        have y2 := hx2.cell 2 (by simp)
        have y3 := hx2.cell 3 (by simp)
        simp only [List.getElem_cons_zero, List.getElem_cons_succ] at y0 y1 y2 y3
        clear hx2 hb2' hO1 hb1 hxh x0 x1 x2 x3
        cases hlv : liveK now ⟨t, ver, til, false⟩ with
        | true =>
          have hS3 := hS2.out
          rw [hlv, if_pos rfl] at hS3
          have hS3h : Hid (outF now til (L.take (i + 1)) = O ++ [⟨t, ver, til, false⟩]) := hS3
          clear hS3 hS2 hlv
          go_wp2_with (at_builtin; refine append_ks rfl (.tmp 27) (.tmp 29) rfl w.heap.size _ O ⟨t, ver, til, false⟩ rfl hO2.out rfl hOl hb2.out.size ?_; intro v7 w7 h7 hc7; have hO7 : Hid (Os w7 w.heap.size v7 (O ++ [⟨t, ver, til, false⟩])) := h7; have hb7 : Hid (Below w.heap.size w w7) := chf_new hb2.out hc7 (own_block hO2.out); clear h7 hc7)
          go_roundw
          case rel => exact ⟨i + 1, _, by go_num, by omega, hO7.out, hS3h.out.symm, hb7.out⟩
          case measure => simp [intOf]; omega
        | false =>
          have hS3 := hS2.out
          rw [hlv, if_neg (by simp), List.append_nil] at hS3
          have hS3h : Hid (outF now til (L.take (i + 1)) = O) := hS3
          clear hS3 hS2 hlv
          go_wp2_with fail
          go_roundw
          case rel => exact ⟨i + 1, O, by go_num, by omega, hO2.out, hS3h.out.symm, hb2.out⟩
          case measure => simp [intOf]; omega
      | false =>
        have hS2 : Hid (outF now til (L.take (i + 1)) = O ++ (if liveK now ⟨t, ver, tl, false⟩ then [⟨t, ver, tl, false⟩] else [])) := hS.out
        clear hS
        go_upto_region 7 with fail
        obtain ⟨w1, hw1⟩ : ∃ w1, wr.alloc (.cells #[.string ⟨t.toArray⟩, .int .i64 ver, .int .i64 tl, .bool false] 49) = w1 := ⟨_, rfl⟩
        have hx : Bl 49 w1 wr.heap.size [.string ⟨t.toArray⟩, .int .i64 ver, .int .i64 tl, .bool false] := by rw [← hw1]; exact alloc_bl wr [_, _, _, _] 49
        have hb01 : Below wr.heap.size wr w1 := hw1 ▸ alloc_below _ _
        obtain ⟨bx, hbx⟩ : ∃ bx, wr.heap.size = bx := ⟨_, rfl⟩
        rw [hbx] at hx
        rw [hw1, hbx]
        have hO1 : Hid (Os w1 w.heap.size _ O) := hO.out.below hb01 (Nat.le_refl _)
        have hb1 : Hid (Below w.heap.size w w1) := hb.out.trans (hb01.mono hb.out.size)
        have hxh : Hid (Bl 49 w1 bx [.string ⟨t.toArray⟩, .int .i64 ver, .int .i64 tl, .bool false]) := hx
        have x0 := hx.cell 0 (by simp)
        have x1 := hx.cell 1 (by simp)
        have x2 := hx.cell 2 (by simp)
        have x3 := hx.cell 3 (by simp)
        simp only [List.getElem_cons_zero, List.getElem_cons_succ] at x0 x1 x2 x3
        clear hw1 hb01 hbx hx hO hb c0 c1 c2 c3
        go_wp2_with fail
        refine (isLive_any ⟨t, ver, tl, false⟩ now w1).mono ?_
        rintro e w2 ⟨rfl, hb2'⟩
        have hx2 := hxh.out.below hb2' hxh.out.lt
        have hO2 : Hid (Os w2 w.heap.size _ O) := hO1.out.below hb2' (Nat.le_refl _)
        have hb2 : Hid (Below w.heap.size w w2) := hb1.out.trans (hb2'.mono hb1.out.size)
        have y0 := hx2.cell 0 (by simp)
        have y1 := hx2.cell 1 (by simp)
        have y2 := hx2.cell 2 (by simp)
        have y3 := hx2.cell 3 (by simp)
        simp only [List.getElem_cons_zero, List.getElem_cons_succ] at y0 y1 y2 y3
        clear hx2 hb2' hO1 hb1 hxh x0 x1 x2 x3
        cases hlv : liveK now ⟨t, ver, tl, false⟩ with
        | true =>
          have hS3 := hS2.out
          rw [hlv, if_pos rfl] at hS3
          have hS3h : Hid (outF now til (L.take (i + 1)) = O ++ [⟨t, ver, tl, false⟩]) := hS3
          clear hS3 hS2 hlv
          go_wp2_with (at_builtin; refine append_ks rfl (.tmp 27) (.tmp 29) rfl w.heap.size _ O ⟨t, ver, tl, false⟩ rfl hO2.out rfl hOl hb2.out.size ?_; intro v7 w7 h7 hc7; have hO7 : Hid (Os w7 w.heap.size v7 (O ++ [⟨t, ver, tl, false⟩])) := h7; have hb7 : Hid (Below w.heap.size w w7) := chf_new hb2.out hc7 (own_block hO2.out); clear h7 hc7)
          go_roundw
          case rel => exact ⟨i + 1, _, by go_num, by omega, hO7.out, hS3h.out.symm, hb7.out⟩
          case measure => simp [intOf]; omega
        | false =>
          have hS3 := hS2.out
          rw [hlv, if_neg (by simp), List.append_nil] at hS3
          have hS3h : Hid (outF now til (L.take (i + 1)) = O) := hS3
          clear hS3 hS2 hlv
          go_wp2_with fail
          go_roundw
          case rel => exact ⟨i + 1, O, by go_num, by omega, hO2.out, hS3h.out.symm, hb2.out⟩
          case measure => simp [intOf]; omega
    · obtain rfl : i = L.length := by omega
      have hEE := hE.out
      rw [List.take_length] at hEE
      subst hEE
      clear hE
      go_wp2_with fail
      go_ret
      exact ⟨_, rfl, hO.out, hb.out⟩

end Go.Proofs.YtcdcfgkgighmhaaGreatDoor
