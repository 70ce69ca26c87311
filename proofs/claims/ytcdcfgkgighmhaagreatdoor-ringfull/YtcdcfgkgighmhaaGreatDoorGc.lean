import Derived.Test.YtcdcfgkgighmhaaGreatDoorGb
namespace Go.Proofs.YtcdcfgkgighmhaaGreatDoor
open Go.RowKit Go.MuLone
set_option maxRecDepth 100000

theorem infoV : (Tryz.prog.info? 2).map (fun i => (i.zero, i.size, i.bytes)) = some (some (.int .i64 0), 1, 8) := by kernel_rfl
def iC (x : Int) : Value := .int .i64 x
/-- A list of numbers of one's own. -/
def Ov (w : World) (base : Nat) (v : Value) (L : List Int) : Prop := w.ownsRow base 2 1 v L.length (L.map iC)
theorem Ov.nil (w : World) (base : Nat) : Ov w base (.slice none 0 0) [] := ⟨rfl, .inl ⟨rfl, rfl⟩⟩
theorem Ov.below {w w' : World} {base n : Nat} {v : Value} {L : List Int} (h : Ov w base v L) (hb : Below n w w') (hn : w.heap.size ≤ n) : Ov w' base v L :=
  own_chf (f := fun _ => False) h ⟨hb.os, hb.tape, hb.output, hb.size, fun k hk _ => hb.block k (by omega)⟩ (fun _ _ h => h)
theorem append_vv {wr : World} {ops : Array Oper} {rest : List Oper} {o : Oper} {a : Act} {Q : Exit → Act → World → Prop} (hgd : o.guard = none) (s x : Operand)
    (ho : o.op = .call { callee := .builtin .append, args := #[s, x], argTypes := #[27, 27] })
    (B0 : Nat) (v : Value) (L : List Int) (p : Int) (hs : a.eval s = v) (hob : Ov wr B0 v L) (hx : a.eval x = .slice (some ⟨wr.heap.size, 0, none⟩) 1 1) (hl : L.length ≤ 1000000000) (hB : B0 ≤ wr.heap.size)
    (h : ∀ v' w', Ov w' B0 v' (L ++ [p]) → Chf (fun k => v.ownBlock = some k) wr w' → wpList Tryz.prog ops Q rest (a.put o.dst v') w') : wpList Tryz.prog ops Q (o :: rest) a (wr.alloc (.cells #[.int .i64 p] 2)) := by
  obtain ⟨i, hi, hz, hsize, hby⟩ := info_parts infoV
  have hbl := alloc_bl wr [iC p] 2
  refine wpList_append_own_wide _ hgd s x 27 ho B0 2 i _ 1 8 Tryz.underlying27 hi hz hsize hby rfl (by decide) v L.length (L.map iC) hs (hob.below (alloc_below wr _) (Nat.le_refl _)) ⟨wr.heap.size, 0, none⟩ 1 1 [iC p] hx rfl ?_ ?_ (by unfold maxLen; omega) (by omega) (by rw [World.size_alloc]; omega) ?_
  · intro j u hu
    have hj : j < ([iC p] : List Value).length := (List.getElem?_eq_some_iff.1 hu).1
    rw [Addr.add_lit, Nat.zero_add]
    have := hbl.cell j hj
    rw [List.getElem?_eq_getElem hj] at hu
    rw [← hu]
    exact this
  · intro u hu
    simp at hu
    rw [hu]
    rfl
  · intro v' w' h1 h2 _
    refine h v' w' ?_ ?_
    · unfold Ov
      rw [List.length_append, List.map_append]
      exact h1
    · exact ((Chf.refl _ wr).alloc _).grown h2 (fun g hg => .inl hg)
def versF (c : Int) (L : List Ks) : List Int := (L.filter (liveK c)).map (·.ver)
theorem versF_snoc (c : Int) (L : List Ks) (s : Ks) : versF c (L ++ [s]) = versF c L ++ (if liveK c s then [s.ver] else []) := by
  unfold versF
  rw [List.filter_append, List.map_append]
  congr 1
  simp only [List.filter_cons, List.filter_nil]
  split <;> rfl
theorem versF_le (c : Int) (L : List Ks) : (versF c L).length ≤ L.length := by
  unfold versF
  rw [List.length_map]
  exact List.length_filter_le _ _
theorem Rg.lock {w : World} {B0 rb : Nat} {lk : Int} {v : Value} {L : List Ks} {last clk : Int} {has : Bool} (h : Rg w B0 rb lk v L last clk has) (x : Int) (hne : ∀ g, v.ownBlock = some g → g ≠ rb) : Rg (w.setCell ⟨rb, 0, none⟩ (.int .i32 x)) B0 rb x v L last clk has :=
  ⟨h.cells.set 0 _, own_chf h.own (Chf.set (f := fun k => k = rb) (Chf.refl _ w) (.inl rfl) _) hne, h.low⟩
theorem Rg.ne {w : World} {B0 rb : Nat} {lk : Int} {v : Value} {L : List Ks} {last clk : Int} {has : Bool} (h : Rg w B0 rb lk v L last clk has) : ∀ g, v.ownBlock = some g → g ≠ rb := by
  rintro g hg rfl
  have h1 := h.cells
  rcases h.own.2 with ⟨rfl, _⟩ | ⟨g', cap, cur, rfl, _, hh, _⟩
  · cases hg
  · have e : g' = g := by simpa [Value.ownBlock] using hg
    subst e
    unfold Bl at h1
    rw [hh] at h1
    simp at h1
theorem Rg.below {w w' : World} {B0 rb n : Nat} {lk : Int} {v : Value} {L : List Ks} {last clk : Int} {has : Bool} (h : Rg w B0 rb lk v L last clk has) (hb : Below n w w') (hn : w.heap.size ≤ n) : Rg w' B0 rb lk v L last clk has :=
  ⟨h.cells.below hb (Nat.lt_of_lt_of_le h.cells.lt hn), h.own.below hb hn, h.low⟩

set_option maxHeartbeats 8000000 in
theorem versions_a (rb B0 : Nat) (v : Value) (L : List Ks) (last clk : Int) (has : Bool) (now : Int) (w : World) (h : Rg w B0 rb 0 v L last clk has) (hL : L.length ≤ 1000000) (hcmp : now < clk) :
    Calls Tryz.prog 7 #[.pointer (some ⟨rb, 0, none⟩), .int .i64 now] w fun e w' => ∃ v', e = .returned v' ∧ Ov w' w.heap.size v' (versF clk L) ∧ Rg w' B0 rb 0 v L last clk has ∧ Chf (fun k => k = rb) w w' := by
  have hne := h.ne
  have l0 := h.cells.cell 0 (by simp)
  have f0 := h.cells.frozen 0
  simp only [List.getElem_cons_zero] at l0
  obtain ⟨ao, cap, rfl, hrd'⟩ := h.own.rd
  obtain ⟨w1, hw1⟩ : ∃ w1, w.setCell ⟨rb, 0, none⟩ (.int .i32 1) = w1 := ⟨_, rfl⟩
  have hR1' := h.lock 1 hne
  have hC1 : Hid (Chf (fun k => k = rb) w w1) := by rw [← hw1]; exact Chf.set (f := fun k => k = rb) (Chf.refl _ w) (.inl rfl) _
  rw [hw1] at hR1'
  have hR1 : Hid (Rg w1 B0 rb 1 (.slice ao L.length cap) L last clk has) := hR1'
  have hsz : Hid (w1.heap.size = w.heap.size) := by show _ = _; rw [← hw1]; simp
  have hneh : Hid (∀ g, (Value.slice ao L.length cap).ownBlock = some g → g ≠ rb) := hne
  obtain ⟨_, _, e9, hrd9⟩ := hR1'.own.rd
  have hrd : Hid (L = [] ∨ ∃ g, ao = some ⟨g, 0, none⟩ ∧ B0 ≤ g ∧ g < w1.heap.size ∧ ∀ i j, i < L.length → (hj : j < 4) → w1.cell? ⟨g, i * 4 + j, none⟩ = some ((sC (L.getD i ks0))[j]'hj)) := by
    simp only [Value.slice.injEq] at e9
    rw [e9.1]
    exact hrd9
  have d2 := hR1'.cells.cell 2 (by simp)
  simp only [List.getElem_cons_zero, List.getElem_cons_succ] at d2
  clear h hrd' hrd9 e9 hR1' hne
  go_enter_defers Tryz.func7, Tryz.ntmps7
  go_wp2_with (go_at_call 10; refine (lock_free muLib ⟨rb, 0, none⟩ _ l0 f0).mono ?_; rintro e w' ⟨rfl, rfl⟩; rw [hw1]; clear hw1 l0 f0)
  go_loopw [5, 20] (fun s5 s wr => ∃ (i : Nat) (V : List Int), s = .int .i64 (i : Int) ∧ i ≤ L.length ∧ Ov wr w1.heap.size s5 V ∧ Hid (V = versF clk (L.take i)) ∧ Below w1.heap.size w1 wr) (fun _ s _ => L.length - (intOf s).toNat)
  case atStart => exact ⟨0, [], rfl, Nat.zero_le _, Ov.nil _ _, rfl, Below.refl _ _⟩
  case round =>
    obtain ⟨i, V, rfl, hi, hO', hE, hb'⟩ := hrel
    have hO : Hid (Ov wr w1.heap.size _ V) := hO'
    have hb : Hid (Below w1.heap.size w1 wr) := hb'
    have hVl : V.length ≤ 1000000000 := by
      have := versF_le clk (L.take i)
      rw [← hE.out, List.length_take] at this
      omega
    clear hO' hb'
    by_cases hlt : i < L.length
    · rcases hrd.out with h0 | ⟨g, rfl, _, hg, hc⟩
      · rw [h0] at hlt; simp at hlt
      have k : ∀ j, (hj : j < 4) → wr.cell? ⟨g, i * 4 + j, none⟩ = some ((sC (L.getD i ks0))[j]'hj) := fun j hj => cell_but (hc i j hlt hj) fun _ => hb.out.block g hg
      have c0 := k 0 (by decide)
      have c1 := k 1 (by decide)
      have c2 := k 2 (by decide)
      have c3 := k 3 (by decide)
      rw [Nat.add_zero] at c0
      simp only [sC, List.getElem_cons_zero, List.getElem_cons_succ] at c0 c1 c2 c3
      have hS : Hid (versF clk (L.take (i + 1)) = V ++ (if liveK clk (L.getD i ks0) then [(L.getD i ks0).ver] else [])) := by
        show _ = _
        rw [List.take_succ_eq_append_getElem hlt, versF_snoc, hE.out, getD_eq _ _ hlt]
      clear k hc hE
      generalize L.getD i ks0 = s at c0 c1 c2 c3 hS
      obtain ⟨t, ver, tl, en⟩ := s
      dsimp only at c0 c1 c2 c3
      have hii : (i : Int) < (L.length : Int) := by omega
      go_upto_region 7 with fail
      obtain ⟨w2, hw2⟩ : ∃ w2, wr.alloc (.cells #[.string ⟨t.toArray⟩, .int .i64 ver, .int .i64 tl, .bool en] 49) = w2 := ⟨_, rfl⟩
      have hx : Bl 49 w2 wr.heap.size [.string ⟨t.toArray⟩, .int .i64 ver, .int .i64 tl, .bool en] := by rw [← hw2]; exact alloc_bl wr [_, _, _, _] 49
      have hb02 : Below wr.heap.size wr w2 := hw2 ▸ alloc_below _ _
      obtain ⟨bx, hbx⟩ : ∃ bx, wr.heap.size = bx := ⟨_, rfl⟩
      rw [hbx] at hx
      rw [hw2, hbx]
      have hO2 : Hid (Ov w2 w1.heap.size _ V) := hO.out.below hb02 (Nat.le_refl _)
      have hb2 : Hid (Below w1.heap.size w1 w2) := hb.out.trans (hb02.mono hb.out.size)
      have hxh : Hid (Bl 49 w2 bx [.string ⟨t.toArray⟩, .int .i64 ver, .int .i64 tl, .bool en]) := hx
      have x0 := hx.cell 0 (by simp)
      have x1 := hx.cell 1 (by simp)
      have x2 := hx.cell 2 (by simp)
      have x3 := hx.cell 3 (by simp)
      simp only [List.getElem_cons_zero, List.getElem_cons_succ] at x0 x1 x2 x3
      have d4 := (hR1.out.cells.below hb2.out hR1.out.cells.lt).cell 4 (by simp)
      simp only [List.getElem_cons_zero, List.getElem_cons_succ] at d4
      have d4h : Hid (w2.cell? ⟨rb, 4, none⟩ = some (.int .i64 clk)) := d4
      clear hw2 hb02 hbx hx hO hb c0 c1 c2 c3
      have hld : (Instr.loadAt 49 (.pointer (some ⟨bx, 0, none⟩))).run Tryz.prog (w2.drewN 1) = .ok (.agg #[.string ⟨t.toArray⟩, .int .i64 ver, .int .i64 tl, .bool en]) (w2.drewN 1) := by
        refine run_loadAt_mid (w2.drewN 1) bx 0 49 [.string ⟨t.toArray⟩, .int .i64 ver, .int .i64 tl, .bool en] _ ?_ Tryz.underlying49 rfl (by kernel_rfl)
        intro j v hv
        obtain ⟨hj, e⟩ := List.getElem?_eq_some_iff.1 hv
        rw [Nat.zero_add, ← e]
        exact hxh.out.cell j hj
      refine wp_region_tail 7 (by kernel_rfl) (by kernel_rfl) ?_
      simp only [List.take_succ_cons, List.take_zero, List.drop_succ_cons, List.drop_zero]
      repeat (first | go_big_quiet_skip | (go_big_quiet_want; go_big_quiet_op; go_big_quiet_on))
      refine wpQuiet_nil ?_
      clear hld
      go_wp2_with fail
      refine (isLive_any ⟨t, ver, tl, en⟩ clk (w2.drewN 1)).mono ?_
      rintro e w3 ⟨rfl, hb3'⟩
      have hb23 : Below w2.heap.size w2 w3 := (below_drewN (Below.refl _ w2) 1).trans hb3'
      have hx3 := hxh.out.below hb23 hxh.out.lt
      have hO3 : Hid (Ov w3 w1.heap.size _ V) := hO2.out.below hb23 (Nat.le_refl _)
      have hb3 : Hid (Below w1.heap.size w1 w3) := hb2.out.trans (hb23.mono hb2.out.size)
      have y1 := hx3.cell 1 (by simp)
      simp only [List.getElem_cons_zero, List.getElem_cons_succ] at y1
      clear hx3 hb3' hb23 hO2 hb2 hxh x0 x1 x2 x3 d4 d4h
      cases hlv : liveK clk ⟨t, ver, tl, en⟩ with
      | true =>
        have hS3 := hS.out
        rw [hlv, if_pos rfl] at hS3
        have hS3h : Hid (versF clk (L.take (i + 1)) = V ++ [ver]) := hS3
        clear hS3 hS hlv
        go_wp2_with (at_builtin; refine append_vv rfl (.tmp 32) (.tmp 35) rfl w1.heap.size _ V ver rfl hO3.out rfl hVl hb3.out.size ?_; intro v7 w7 h7 hc7; have hO7 : Hid (Ov w7 w1.heap.size v7 (V ++ [ver])) := h7; have hb7 : Hid (Below w1.heap.size w1 w7) := chf_new hb3.out hc7 (own_block hO3.out); clear h7 hc7)
        go_roundw
        case rel => exact ⟨i + 1, _, by go_num, by omega, hO7.out, hS3h.out.symm, hb7.out⟩
        case measure => simp [intOf]; omega
      | false =>
        have hS3 := hS.out
        rw [hlv, if_neg (by simp), List.append_nil] at hS3
        have hS3h : Hid (versF clk (L.take (i + 1)) = V) := hS3
        clear hS3 hS hlv
        go_wp2_with fail
        go_roundw
        case rel => exact ⟨i + 1, V, by go_num, by omega, hO3.out, hS3h.out.symm, hb3.out⟩
        case measure => simp [intOf]; omega
    · obtain rfl : i = L.length := by omega
      have hEE := hE.out
      rw [List.take_length] at hEE
      subst hEE
      clear hE
      have hR2 : Hid (Rg wr B0 rb 1 (.slice ao L.length cap) L last clk has) := hR1.out.below hb.out (Nat.le_refl _)
      have l1 := hR2.out.cells.cell 0 (by simp)
      simp only [List.getElem_cons_zero] at l1
      go_wp2_with fail
      refine leaves_cons (f := 11) (args := #[.pointer (some ⟨rb, 0, none⟩)]) (by simp) (by simp [go_sem]) ?_
      refine (unlock_deferred muLib ⟨rb, 0, none⟩ .returning _ l1 (hR2.out.cells.frozen 0)).mono ?_
      rintro e u' w'' ⟨rfl, rfl, rfl⟩
      refine ⟨_, results_tmp rfl _ _ _, _, rfl, ?_, ?_, ?_⟩
      · have := own_chf (f := fun k => k = rb) hO.out (Chf.set (f := fun k => k = rb) (g := rb) (j := 0) (Chf.refl _ wr) (.inl rfl) (.int .i32 0)) (fun g hg e => by have h1 := own_block hO.out g hg; have h2 := hR1.out.cells.lt; omega)
        rw [← hsz.out]
        exact this
      · exact hR2.out.lock 0 hneh.out
      · exact (hC1.out.trans (Chf.of_below hb.out)).trans (Chf.set (f := fun k => k = rb) (Chf.refl _ wr) (.inl rfl) _)

set_option maxHeartbeats 8000000 in
theorem versions_b (rb B0 : Nat) (v : Value) (L : List Ks) (last clk : Int) (has : Bool) (now : Int) (w : World) (h : Rg w B0 rb 0 v L last clk has) (hL : L.length ≤ 1000000) (hcmp : clk ≤ now) :
    Calls Tryz.prog 7 #[.pointer (some ⟨rb, 0, none⟩), .int .i64 now] w fun e w' => ∃ v', e = .returned v' ∧ Ov w' w.heap.size v' (versF now L) ∧ Rg w' B0 rb 0 v L last clk has ∧ Chf (fun k => k = rb) w w' := by
  have hne := h.ne
  have l0 := h.cells.cell 0 (by simp)
  have f0 := h.cells.frozen 0
  simp only [List.getElem_cons_zero] at l0
  obtain ⟨ao, cap, rfl, hrd'⟩ := h.own.rd
  obtain ⟨w1, hw1⟩ : ∃ w1, w.setCell ⟨rb, 0, none⟩ (.int .i32 1) = w1 := ⟨_, rfl⟩
  have hR1' := h.lock 1 hne
  have hC1 : Hid (Chf (fun k => k = rb) w w1) := by rw [← hw1]; exact Chf.set (f := fun k => k = rb) (Chf.refl _ w) (.inl rfl) _
  rw [hw1] at hR1'
  have hR1 : Hid (Rg w1 B0 rb 1 (.slice ao L.length cap) L last clk has) := hR1'
  have hsz : Hid (w1.heap.size = w.heap.size) := by show _ = _; rw [← hw1]; simp
  have hneh : Hid (∀ g, (Value.slice ao L.length cap).ownBlock = some g → g ≠ rb) := hne
  obtain ⟨_, _, e9, hrd9⟩ := hR1'.own.rd
  have hrd : Hid (L = [] ∨ ∃ g, ao = some ⟨g, 0, none⟩ ∧ B0 ≤ g ∧ g < w1.heap.size ∧ ∀ i j, i < L.length → (hj : j < 4) → w1.cell? ⟨g, i * 4 + j, none⟩ = some ((sC (L.getD i ks0))[j]'hj)) := by
    simp only [Value.slice.injEq] at e9
    rw [e9.1]
    exact hrd9
  have d2 := hR1'.cells.cell 2 (by simp)
  simp only [List.getElem_cons_zero, List.getElem_cons_succ] at d2
  clear h hrd' hrd9 e9 hR1' hne
  go_enter_defers Tryz.func7, Tryz.ntmps7
  go_wp2_with (go_at_call 10; refine (lock_free muLib ⟨rb, 0, none⟩ _ l0 f0).mono ?_; rintro e w' ⟨rfl, rfl⟩; rw [hw1]; clear hw1 l0 f0)
  go_loopw [5, 20] (fun s5 s wr => ∃ (i : Nat) (V : List Int), s = .int .i64 (i : Int) ∧ i ≤ L.length ∧ Ov wr w1.heap.size s5 V ∧ Hid (V = versF now (L.take i)) ∧ Below w1.heap.size w1 wr) (fun _ s _ => L.length - (intOf s).toNat)
  case atStart => exact ⟨0, [], rfl, Nat.zero_le _, Ov.nil _ _, rfl, Below.refl _ _⟩
  case round =>
    obtain ⟨i, V, rfl, hi, hO', hE, hb'⟩ := hrel
    have hO : Hid (Ov wr w1.heap.size _ V) := hO'
    have hb : Hid (Below w1.heap.size w1 wr) := hb'
    have hVl : V.length ≤ 1000000000 := by
      have := versF_le now (L.take i)
      rw [← hE.out, List.length_take] at this
      omega
    clear hO' hb'
    by_cases hlt : i < L.length
    · rcases hrd.out with h0 | ⟨g, rfl, _, hg, hc⟩
      · rw [h0] at hlt; simp at hlt
      have k : ∀ j, (hj : j < 4) → wr.cell? ⟨g, i * 4 + j, none⟩ = some ((sC (L.getD i ks0))[j]'hj) := fun j hj => cell_but (hc i j hlt hj) fun _ => hb.out.block g hg
      have c0 := k 0 (by decide)
      have c1 := k 1 (by decide)
      have c2 := k 2 (by decide)
      have c3 := k 3 (by decide)
      rw [Nat.add_zero] at c0
      simp only [sC, List.getElem_cons_zero, List.getElem_cons_succ] at c0 c1 c2 c3
      have hS : Hid (versF now (L.take (i + 1)) = V ++ (if liveK now (L.getD i ks0) then [(L.getD i ks0).ver] else [])) := by
        show _ = _
        rw [List.take_succ_eq_append_getElem hlt, versF_snoc, hE.out, getD_eq _ _ hlt]
      clear k hc hE
      generalize L.getD i ks0 = s at c0 c1 c2 c3 hS
      obtain ⟨t, ver, tl, en⟩ := s
      dsimp only at c0 c1 c2 c3
      have hii : (i : Int) < (L.length : Int) := by omega
      go_upto_region 7 with fail
      obtain ⟨w2, hw2⟩ : ∃ w2, wr.alloc (.cells #[.string ⟨t.toArray⟩, .int .i64 ver, .int .i64 tl, .bool en] 49) = w2 := ⟨_, rfl⟩
      have hx : Bl 49 w2 wr.heap.size [.string ⟨t.toArray⟩, .int .i64 ver, .int .i64 tl, .bool en] := by rw [← hw2]; exact alloc_bl wr [_, _, _, _] 49
      have hb02 : Below wr.heap.size wr w2 := hw2 ▸ alloc_below _ _
      obtain ⟨bx, hbx⟩ : ∃ bx, wr.heap.size = bx := ⟨_, rfl⟩
      rw [hbx] at hx
      rw [hw2, hbx]
      have hO2 : Hid (Ov w2 w1.heap.size _ V) := hO.out.below hb02 (Nat.le_refl _)
      have hb2 : Hid (Below w1.heap.size w1 w2) := hb.out.trans (hb02.mono hb.out.size)
      have hxh : Hid (Bl 49 w2 bx [.string ⟨t.toArray⟩, .int .i64 ver, .int .i64 tl, .bool en]) := hx
      have x0 := hx.cell 0 (by simp)
      have x1 := hx.cell 1 (by simp)
      have x2 := hx.cell 2 (by simp)
      have x3 := hx.cell 3 (by simp)
      simp only [List.getElem_cons_zero, List.getElem_cons_succ] at x0 x1 x2 x3
      have d4 := (hR1.out.cells.below hb2.out hR1.out.cells.lt).cell 4 (by simp)
      simp only [List.getElem_cons_zero, List.getElem_cons_succ] at d4
      have d4h : Hid (w2.cell? ⟨rb, 4, none⟩ = some (.int .i64 clk)) := d4
      clear hw2 hb02 hbx hx hO hb c0 c1 c2 c3
      have hld : (Instr.loadAt 49 (.pointer (some ⟨bx, 0, none⟩))).run Tryz.prog (w2.drewN 1) = .ok (.agg #[.string ⟨t.toArray⟩, .int .i64 ver, .int .i64 tl, .bool en]) (w2.drewN 1) := by
        refine run_loadAt_mid (w2.drewN 1) bx 0 49 [.string ⟨t.toArray⟩, .int .i64 ver, .int .i64 tl, .bool en] _ ?_ Tryz.underlying49 rfl (by kernel_rfl)
        intro j v hv
        obtain ⟨hj, e⟩ := List.getElem?_eq_some_iff.1 hv
        rw [Nat.zero_add, ← e]
        exact hxh.out.cell j hj
      refine wp_region_tail 7 (by kernel_rfl) (by kernel_rfl) ?_
      simp only [List.take_succ_cons, List.take_zero, List.drop_succ_cons, List.drop_zero]
      repeat (first | go_big_quiet_skip | (go_big_quiet_want; go_big_quiet_op; go_big_quiet_on))
      refine wpQuiet_nil ?_
      clear hld
      go_wp2_with fail
      refine (isLive_any ⟨t, ver, tl, en⟩ now (w2.drewN 1)).mono ?_
      rintro e w3 ⟨rfl, hb3'⟩
      have hb23 : Below w2.heap.size w2 w3 := (below_drewN (Below.refl _ w2) 1).trans hb3'
      have hx3 := hxh.out.below hb23 hxh.out.lt
      have hO3 : Hid (Ov w3 w1.heap.size _ V) := hO2.out.below hb23 (Nat.le_refl _)
      have hb3 : Hid (Below w1.heap.size w1 w3) := hb2.out.trans (hb23.mono hb2.out.size)
      have y1 := hx3.cell 1 (by simp)
      simp only [List.getElem_cons_zero, List.getElem_cons_succ] at y1
      clear hx3 hb3' hb23 hO2 hb2 hxh x0 x1 x2 x3 d4 d4h
      cases hlv : liveK now ⟨t, ver, tl, en⟩ with
      | true =>
        have hS3 := hS.out
        rw [hlv, if_pos rfl] at hS3
        have hS3h : Hid (versF now (L.take (i + 1)) = V ++ [ver]) := hS3
        clear hS3 hS hlv
        go_wp2_with (at_builtin; refine append_vv rfl (.tmp 32) (.tmp 35) rfl w1.heap.size _ V ver rfl hO3.out rfl hVl hb3.out.size ?_; intro v7 w7 h7 hc7; have hO7 : Hid (Ov w7 w1.heap.size v7 (V ++ [ver])) := h7; have hb7 : Hid (Below w1.heap.size w1 w7) := chf_new hb3.out hc7 (own_block hO3.out); clear h7 hc7)
        go_roundw
        case rel => exact ⟨i + 1, _, by go_num, by omega, hO7.out, hS3h.out.symm, hb7.out⟩
        case measure => simp [intOf]; omega
      | false =>
        have hS3 := hS.out
        rw [hlv, if_neg (by simp), List.append_nil] at hS3
        have hS3h : Hid (versF now (L.take (i + 1)) = V) := hS3
        clear hS3 hS hlv
        go_wp2_with fail
        go_roundw
        case rel => exact ⟨i + 1, V, by go_num, by omega, hO3.out, hS3h.out.symm, hb3.out⟩
        case measure => simp [intOf]; omega
    · obtain rfl : i = L.length := by omega
      have hEE := hE.out
      rw [List.take_length] at hEE
      subst hEE
      clear hE
      have hR2 : Hid (Rg wr B0 rb 1 (.slice ao L.length cap) L last clk has) := hR1.out.below hb.out (Nat.le_refl _)
      have l1 := hR2.out.cells.cell 0 (by simp)
      simp only [List.getElem_cons_zero] at l1
      go_wp2_with fail
      refine leaves_cons (f := 11) (args := #[.pointer (some ⟨rb, 0, none⟩)]) (by simp) (by simp [go_sem]) ?_
      refine (unlock_deferred muLib ⟨rb, 0, none⟩ .returning _ l1 (hR2.out.cells.frozen 0)).mono ?_
      rintro e u' w'' ⟨rfl, rfl, rfl⟩
      refine ⟨_, results_tmp rfl _ _ _, _, rfl, ?_, ?_, ?_⟩
      · have := own_chf (f := fun k => k = rb) hO.out (Chf.set (f := fun k => k = rb) (g := rb) (j := 0) (Chf.refl _ wr) (.inl rfl) (.int .i32 0)) (fun g hg e => by have h1 := own_block hO.out g hg; have h2 := hR1.out.cells.lt; omega)
        rw [← hsz.out]
        exact this
      · exact hR2.out.lock 0 hneh.out
      · exact (hC1.out.trans (Chf.of_below hb.out)).trans (Chf.set (f := fun k => k = rb) (Chf.refl _ wr) (.inl rfl) _)

def maxF (a b : Int) : Int := if a < b then b else a
theorem versions_any (rb B0 : Nat) (v : Value) (L : List Ks) (last clk : Int) (has : Bool) (now : Int) (w : World) (h : Rg w B0 rb 0 v L last clk has) (hL : L.length ≤ 1000000) :
    Calls Tryz.prog 7 #[.pointer (some ⟨rb, 0, none⟩), .int .i64 now] w fun e w' => ∃ v', e = .returned v' ∧ Ov w' w.heap.size v' (versF (maxF now clk) L) ∧ Rg w' B0 rb 0 v L last clk has ∧ Chf (fun k => k = rb) w w' := by
  unfold maxF
  by_cases hc : now < clk
  · rw [if_pos hc]; exact versions_a rb B0 v L last clk has now w h hL hc
  · rw [if_neg hc]; exact versions_b rb B0 v L last clk has now w h hL (by omega)

end Go.Proofs.YtcdcfgkgighmhaaGreatDoor
