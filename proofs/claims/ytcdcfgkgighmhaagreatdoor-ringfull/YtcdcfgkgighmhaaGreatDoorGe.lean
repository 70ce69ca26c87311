import Derived.Test.YtcdcfgkgighmhaaGreatDoorGd
namespace Go.Proofs.YtcdcfgkgighmhaaGreatDoor
open Go.RowKit Go.MuLone
set_option maxRecDepth 100000

set_option maxHeartbeats 8000000 in
theorem rotate_full (rb B0 : Nat) (v : Value) (L : List Ks) (last clk : Int) (has : Bool) (now grace : Int) (w : World) (h : Rg w B0 rb 0 v L last clk has) (hG : GL w.heap.size w) (hL : L.length ≤ 1000) (hp : (has && decide (now < clk)) = false) (hg0 : 0 ≤ grace) (hg1 : grace ≤ 4294967296) (hn : -9223372036854775808 ≤ now ∧ now ≤ 9223372036854775807) (hO : 8 ≤ (outF now (tilF now grace) L).length) :
    Calls Tryz.prog 6 #[.pointer (some ⟨rb, 0, none⟩), .string ⟨#[123, 34, 107, 101, 121, 115, 34, 58, 91, 93, 125]⟩, .int .i64 now, .int .i64 grace] w fun e w' => e = .returned (.int .i64 161) ∧ Rg w' B0 rb 0 v L last clk has ∧ Chf (fun k => k = rb) w w' := by
  have hne := h.ne
  have hh : Hid (Rg w B0 rb 0 v L last clk has) := h
  have PC := ksParse_none w hG
  have q0 : decide (grace < 0) = false := by simp; omega
  have q1 : decide (grace > 4294967296) = false := by simp; omega
  obtain ⟨ao, cap, rfl, _⟩ := h.own.rd
  have hneh : Hid (∀ g, (Value.slice ao L.length cap).ownBlock = some g → g ≠ rb) := hne
  have hB0 : B0 ≤ w.heap.size := Nat.le_trans h.low (Nat.le_of_lt h.cells.lt)
  have hlow := h.low
  clear hG h hne
  go_enter_defers Tryz.func6, Tryz.ntmps6
  go_wp2_with fail
  refine PC.mono ?_
  rintro e w1 ⟨rfl, hb1⟩
  have hR1' := hh.out.below hb1 (Nat.le_refl _)
  have l0 := hR1'.cells.cell 0 (by simp)
  have f0 := hR1'.cells.frozen 0
  simp only [List.getElem_cons_zero] at l0
  obtain ⟨w2, hw2⟩ : ∃ w2, w1.setCell ⟨rb, 0, none⟩ (.int .i32 1) = w2 := ⟨_, rfl⟩
  have hR2' := hR1'.lock 1 hneh.out
  have hC2 : Hid (Chf (fun k => k = rb) w w2) := by
    rw [← hw2]
    exact (Chf.of_below hb1).trans (Chf.set (f := fun k => k = rb) (Chf.refl _ w1) (.inl rfl) _)
  rw [hw2] at hR2'
  have hR2 : Hid (Rg w2 B0 rb 1 (.slice ao L.length cap) L last clk has) := hR2'
  clear hR1' hR2' hb1 PC hh
  go_wp2_with (go_at_call 10; refine (lock_free muLib ⟨rb, 0, none⟩ _ l0 f0).mono ?_; rintro e w' ⟨rfl, rfl⟩; rw [hw2]; clear hw2 l0 f0)
  have IP := isPast_any rb 1 (.slice ao L.length cap) last clk has now w2 hR2.out.cells
  rw [hp] at IP
  refine IP.mono ?_
  rintro e w3 ⟨rfl, rfl⟩
  clear IP
  go_wp2_with fail
  refine (endOf_any now grace w3 hg0 hg1 hn).mono ?_
  rintro e w4 ⟨rfl, rfl⟩
  obtain ⟨til, htil⟩ : ∃ til, tilF now grace = til := ⟨_, rfl⟩
  have htilh : Hid (tilF now grace = til) := htil
  rw [htil] at hO ⊢
  clear htil
  go_wp2_with fail
  refine (outgoing_any rb B0 1 (.slice ao L.length cap) L last clk has now til w4 hR2.out (by omega)).mono ?_
  rintro e w5 ⟨v5, rfl, hO5', hb5'⟩
  obtain ⟨a5, c5, e5, _⟩ := hO5'.rd
  obtain ⟨n, hnn⟩ : ∃ n, (outF now til L).length = n := ⟨_, rfl⟩
  rw [hnn] at e5 hO
  subst e5
  have hnh : Hid ((outF now til L).length = n) := hnn
  have hR5 : Hid (Rg w5 B0 rb 1 (.slice ao L.length cap) L last clk has) := hR2.out.below hb5' (Nat.le_refl _)
  have hC5 : Hid (Chf (fun k => k = rb) w w5) := hC2.out.trans (Chf.of_below hb5')
  have hO5 : Hid (Os w5 w4.heap.size (.slice a5 n c5) (outF now til L)) := hO5'
  have hrblt : Hid (rb < w4.heap.size) := hR2.out.cells.lt
  clear hO5' hb5' hR2 hnn
  have q5 : decide ((n : Int) ≥ 8) = true := by simp; omega
  have l1 := hR5.out.cells.cell 0 (by simp)
  simp only [List.getElem_cons_zero] at l1
  go_wp2_with fail
  refine leaves_cons (f := 11) (args := #[.pointer (some ⟨rb, 0, none⟩)]) (by simp) (by simp [go_sem]) ?_
  refine (unlock_deferred muLib ⟨rb, 0, none⟩ .returning _ l1 (hR5.out.cells.frozen 0)).mono ?_
  rintro e u' w'' ⟨rfl, rfl, rfl⟩
  exact ⟨_, results_tmp rfl _ _ _, rfl, hR5.out.lock 0 hneh.out, hC5.out.trans (Chf.set (f := fun k => k = rb) (Chf.refl _ w5) (.inl rfl) _)⟩


/-- An exit without panics. -/
def nop (Q : Exit → Act → World → Prop) : Exit → Act → World → Prop
  | .panic _, _, _ => False
  | e, a, w => Q e a w
theorem nop_le {Q : Exit → Act → World → Prop} : ∀ e a w, nop Q e a w → Q e a w
  | .normal, _, _, h => h
  | .ret, _, _, h => h
  | .exit _, _, _, h => h
  | .goto _, _, _, h => h
  | .panic _, _, _, h => h.elim
  | .outgrown, _, _, h => h
theorem Os.base {w : World} {base base' : Nat} {v : Value} {L : List Ks} (h : Os w base v L) (hb : base' ≤ base) : Os w base' v L := by
  rcases h.2 with h0 | ⟨g, cap, cur, e, hg, r⟩
  · exact ⟨h.1, .inl h0⟩
  · exact ⟨h.1, .inr ⟨g, cap, cur, e, Nat.le_trans hb hg, r⟩⟩
theorem own_one {g n c k : Nat} (h : (Value.slice (some ⟨g, 0, none⟩) n c).ownBlock = some k) : g = k := by simpa [Value.ownBlock] using h
theorem Os.ner {w : World} {base rb : Nat} {v : Value} {L : List Ks} {cs : List Value} (h : Os w base v L) (h1 : Bl 40 w rb cs) : ∀ g, v.ownBlock = some g → g ≠ rb := by
  rintro g hg rfl
  rcases h.2 with ⟨rfl, _⟩ | ⟨g', cap, cur, rfl, _, hh, _⟩
  · cases hg
  · have e : g' = g := by simpa [Value.ownBlock] using hg
    subst e
    unfold Bl at h1
    rw [hh] at h1
    simp at h1
theorem lit_os (w : World) (p : Ks) : Os (w.alloc (.cells #[.string ⟨p.t.toArray⟩, .int .i64 p.ver, .int .i64 p.til, .bool p.endless] 49)) w.heap.size (.slice (some ⟨w.heap.size, 0, none⟩) 1 1) [p] := by
  have hbl := alloc_bl w (sC p) 49
  refine ⟨rfl, .inr ⟨w.heap.size, 1, (sC p).toArray, rfl, Nat.le_refl _, hbl, Nat.le_refl _, by decide, rfl, ?_⟩⟩
  show (sC p).take 4 = sCs [p]
  rfl
theorem wp_append_two {wr : World} {o : Oper} {a : Act} {K : Act → World → Prop} {Q : Exit → Act → World → Prop} (s x : Operand)
    (ho : o.op = .call { callee := .builtin .append, args := #[s, x], argTypes := #[38, 38] })
    (B0 B1 : Nat) (v v2 : Value) (L O : List Ks) (hs : a.eval s = v) (hob : Os wr B0 v L) (hx : a.eval x = v2) (hO : Os wr B1 v2 O) (hl : L.length ≤ 1000000) (hl2 : O.length ≤ 1000000) (hB : B0 ≤ wr.heap.size)
    (h : ∀ v' w', Os w' B0 v' (L ++ O) → Chf (fun k => v.ownBlock = some k) wr w' → K (a.put o.dst v') w') : o.wp Tryz.prog a wr K Q := by
  obtain ⟨i, hi, hz, hsize, hby⟩ := info_parts infoK
  rcases hO.2 with ⟨rfl, h0⟩ | ⟨g, cap, cur, rfl, hg, hh, hn, hc, hsz, ht⟩
  · have : O = [] := List.eq_nil_of_length_eq_zero h0
    subst this
    have hrun := run_append_owned_none (P := Tryz.prog) (w := wr) B0 38 o.type 49 i 4 Tryz.underlying38 hi v L.length (sCs L) hob
    unfold Oper.wp
    simp [execOp, ho, resolve, invoke, builtin, hs, hx, hrun, Result.andThen]
    exact h v wr (by rw [List.append_nil]; exact hob) (Chf.refl _ _)
  · refine wp_append_own_wide _ s x 38 ho B0 49 i _ 4 40 Tryz.underlying38 hi hz hsize hby rfl (by decide) v L.length (sCs L) hs hob ⟨g, 0, none⟩ O.length cap (sCs O) hx (sCs_length O) ?_ ?_ (by unfold maxLen; omega) (by omega) hB ?_
    · intro j u hu
      have hj : j < (sCs O).length := (List.getElem?_eq_some_iff.1 hu).1
      rw [Addr.add_lit, Nat.zero_add, World.ownsRow.cellAt hO j (by rw [sCs_length] at hj; exact hj), ← hu]
    · intro u hu
      simp only [sCs, List.mem_flatMap] at hu
      obtain ⟨p, _, hp⟩ := hu
      simp [sC] at hp
      rcases hp with rfl | rfl | rfl | rfl <;> rfl
    · intro v' w' h1 h2 _
      refine h v' w' ?_ ?_
      · unfold Os
        rw [List.length_append, show sCs (L ++ O) = sCs L ++ sCs O by simp [sCs]]
        exact h1
      · exact (Chf.refl _ wr).grown h2 (fun g hg => .inl hg)

set_option maxHeartbeats 16000000 in
theorem rotate_ok (rb B0 : Nat) (v : Value) (L : List Ks) (last clk : Int) (has : Bool) (now grace : Int) (w : World) (h : Rg w B0 rb 0 v L last clk has) (hG : GL w.heap.size w) (hL : L.length ≤ 1000) (hp : (has && decide (now < clk)) = false) (hg0 : 0 ≤ grace) (hg1 : grace ≤ 4294967296) (hn : -9223372036854775808 ≤ now ∧ now ≤ 9223372036854775807) (hl0 : 0 ≤ last ∧ last ≤ 1000) (hO : (outF now (tilF now grace) L).length < 8) :
    Calls Tryz.prog 6 #[.pointer (some ⟨rb, 0, none⟩), .string ⟨#[123, 34, 107, 101, 121, 115, 34, 58, 91, 93, 125]⟩, .int .i64 now, .int .i64 grace] w fun e w' => e = .returned (.int .i64 0) ∧ (∃ v', Rg w' B0 rb 0 v' (⟨noneT, last + 1, 0, true⟩ :: outF now (tilF now grace) L) (last + 1) now true) ∧ Chf (fun k => k = rb) w w' := by
  have hne := h.ne
  have hh : Hid (Rg w B0 rb 0 v L last clk has) := h
  have PC := ksParse_none w hG
  have q0 : decide (grace < 0) = false := by simp; omega
  have q1 : decide (grace > 4294967296) = false := by simp; omega
  obtain ⟨ao, cap, rfl, _⟩ := h.own.rd
  have hneh : Hid (∀ g, (Value.slice ao L.length cap).ownBlock = some g → g ≠ rb) := hne
  have hB0 : B0 ≤ w.heap.size := Nat.le_trans h.low (Nat.le_of_lt h.cells.lt)
  have hlow := h.low
  clear hG h hne
  go_enter_defers Tryz.func6, Tryz.ntmps6
  go_wp2_with fail
  refine PC.mono ?_
  rintro e w1 ⟨rfl, hb1⟩
  have hR1' := hh.out.below hb1 (Nat.le_refl _)
  have l0 := hR1'.cells.cell 0 (by simp)
  have f0 := hR1'.cells.frozen 0
  simp only [List.getElem_cons_zero] at l0
  obtain ⟨w2, hw2⟩ : ∃ w2, w1.setCell ⟨rb, 0, none⟩ (.int .i32 1) = w2 := ⟨_, rfl⟩
  have hR2' := hR1'.lock 1 hneh.out
  have hC2 : Hid (Chf (fun k => k = rb) w w2) := by
    rw [← hw2]
    exact (Chf.of_below hb1).trans (Chf.set (f := fun k => k = rb) (Chf.refl _ w1) (.inl rfl) _)
  rw [hw2] at hR2'
  have hR2 : Hid (Rg w2 B0 rb 1 (.slice ao L.length cap) L last clk has) := hR2'
  clear hR1' hR2' hb1 PC hh
  go_wp2_with (go_at_call 10; refine (lock_free muLib ⟨rb, 0, none⟩ _ l0 f0).mono ?_; rintro e w' ⟨rfl, rfl⟩; rw [hw2]; clear hw2 l0 f0)
  have IP := isPast_any rb 1 (.slice ao L.length cap) last clk has now w2 hR2.out.cells
  rw [hp] at IP
  refine IP.mono ?_
  rintro e w3 ⟨rfl, rfl⟩
  clear IP
  go_wp2_with fail
  refine (endOf_any now grace w3 hg0 hg1 hn).mono ?_
  rintro e w4 ⟨rfl, rfl⟩
  obtain ⟨til, htil⟩ : ∃ til, tilF now grace = til := ⟨_, rfl⟩
  have htilh : Hid (tilF now grace = til) := htil
  rw [htil] at hO ⊢
  clear htil
  go_wp2_with fail
  refine (outgoing_any rb B0 1 (.slice ao L.length cap) L last clk has now til w4 hR2.out (by omega)).mono ?_
  rintro e w5 ⟨v5, rfl, hO5', hb5'⟩
  obtain ⟨a5, c5, e5, _⟩ := hO5'.rd
  obtain ⟨n, hnn⟩ : ∃ n, (outF now til L).length = n := ⟨_, rfl⟩
  rw [hnn] at e5 hO
  subst e5
  have hnh : Hid ((outF now til L).length = n) := hnn
  have hR5 : Hid (Rg w5 B0 rb 1 (.slice ao L.length cap) L last clk has) := hR2.out.below hb5' (Nat.le_refl _)
  have hC5 : Hid (Chf (fun k => k = rb) w w5) := hC2.out.trans (Chf.of_below hb5')
  have hO5 : Hid (Os w5 w4.heap.size (.slice a5 n c5) (outF now til L)) := hO5'
  have hrblt : Hid (rb < w4.heap.size) := hR2.out.cells.lt
  clear hO5' hb5' hR2 hnn
  have q5 : decide ((n : Int) ≥ 8) = false := by simp; omega
  have hOl : (outF now til L).length ≤ 1000000 := by rw [hnh.out]; omega
  obtain ⟨nl, hnl⟩ : ∃ nl, last + 1 = nl := ⟨_, rfl⟩
  have hnlh : Hid (last + 1 = nl) := hnl
  have hwr : IntKind.i64.wrap (last + 1) = nl := by rw [← hnl]; simp [IntKind.wrap, IntKind.bits, IntKind.signed]; omega
  clear hnl
  have r3 := hR5.out.cells.cell 3 (by simp)
  have r4 := hR5.out.cells.cell 4 (by simp)
  have r5 := hR5.out.cells.cell 5 (by simp)
  have g3 := hR5.out.cells.frozen 3
  have g4 := hR5.out.cells.frozen 4
  have g5 := hR5.out.cells.frozen 5
  simp only [List.getElem_cons_zero, List.getElem_cons_succ] at r3 r4 r5
  go_upto_region 15 with fail
  obtain ⟨w7, hw7⟩ : ∃ w7, ((w5.setCell ⟨rb, 4, none⟩ (.int .i64 now)).setCell ⟨rb, 5, none⟩ (.bool true)).setCell ⟨rb, 3, none⟩ (.int .i64 nl) = w7 := ⟨_, rfl⟩
  have hc7 : Hid (Bl 40 w7 rb [.int .i32 1, .int .u32 0, .slice ao L.length cap, .int .i64 nl, .int .i64 now, .bool true]) := by
    rw [← hw7]
    exact ((hR5.out.cells.set 4 _).set 5 _).set 3 _
  have hX7 : Chf (fun k => k = rb) w5 w7 := by
    rw [← hw7]
    exact Chf.set (f := fun k => k = rb) (Chf.set (f := fun k => k = rb) (Chf.set (f := fun k => k = rb) (Chf.refl _ w5) (.inl rfl) _) (.inl rfl) _) (.inl rfl) _
  have hC7 : Hid (Chf (fun k => k = rb) w w7) := hC5.out.trans hX7
  have hO7 : Hid (Os w7 w4.heap.size (.slice a5 n c5) (outF now til L)) := own_chf hO5.out hX7 (fun g hg e => by have h1 := own_block hO5.out g hg; have h2 := hrblt.out; omega)
  rw [hw7]
  clear hw7 hX7 r3 r4 r5 g3 g4 g5 hR5 hC5 hO5
  have HSS : Hid (∀ wq, Below w7.heap.size w7 wq → (fun (w' : World) => w'.cell? ⟨rb, 3, none⟩ = some (.int .i64 nl)) wq) := fun wq hq => by
    have h1 := (hc7.out.below hq hc7.out.lt).cell 3 (by simp)
    simp only [List.getElem_cons_zero, List.getElem_cons_succ] at h1
    exact h1
  refine wp_mono (Q := nop _) ?_ nop_le
  refine wp_region_K 10 (fun (w' : World) => w'.cell? ⟨rb, 3, none⟩ = some (.int .i64 nl)) (by kernel_rfl) ?_
  have hHeld : ((fun (w' : World) => w'.cell? ⟨rb, 3, none⟩ = some (.int .i64 nl))) (World.drew w7) := HSS.out _ (below_drewN (Below.refl _ _) 1)
  refine wpAnyK_take0 0 (v := ?v1) rfl (by kernel_rfl) (fun _ _ _ h => h) (Or.inl ⟨by rfl, ?hy1⟩) (fun _ => hHeld) ?_
  case hy1 => (intro w hSw; go_simp; try with_reducible rfl)
  try simp only [Act.put, List.setIfInBounds_toArray, List.set_cons_zero, List.set_cons_succ]
  refine wpAnyK_take0 1 (v := ?v2) rfl (by kernel_rfl) (fun _ _ _ h => h) (Or.inl ⟨by rfl, ?hy2⟩) (fun _ => hHeld) ?_
  case hy2 => (intro w hSw; go_simp; try with_reducible rfl)
  try simp only [Act.put, List.setIfInBounds_toArray, List.set_cons_zero, List.set_cons_succ]
  refine wpAnyK_take0 3 (v := ?v3) rfl (by kernel_rfl) (fun _ _ _ h => h) (Or.inl ⟨by rfl, ?hy3⟩) (fun _ => hHeld) ?_
  case hy3 => (intro w hSw; go_simp; try with_reducible rfl)
  try simp only [Act.put, List.setIfInBounds_toArray, List.set_cons_zero, List.set_cons_succ]
  refine wpAnyK_take0 4 (v := ?v4) rfl (by kernel_rfl) (fun _ _ _ h => h) (Or.inl ⟨by rfl, ?hy4⟩) (fun _ => hHeld) ?_
  case hy4 => (intro w hSw; go_simp; try with_reducible rfl)
  try simp only [Act.put, List.setIfInBounds_toArray, List.set_cons_zero, List.set_cons_succ]
  refine wpAnyK_take0 5 (v := ?v5) rfl (by kernel_rfl) (fun _ _ _ h => h) (Or.inl ⟨by rfl, ?hy5⟩) (fun _ => hHeld) ?_
  case hy5 => (intro w hSw; go_simp; try with_reducible rfl)
  try simp only [Act.put, List.setIfInBounds_toArray, List.set_cons_zero, List.set_cons_succ]
  refine wpAnyK_take 6 [7, 8, 10] (v := ?v6) rfl (by kernel_rfl) (fun _ _ _ h => h) (Or.inl ⟨by rfl, ?hy6⟩) hHeld ?_
  case hy6 => (intro w hSw; (try dsimp only at hSw); go_simp; try with_reducible rfl)
  try simp only [Act.put, List.setIfInBounds_toArray, List.set_cons_zero, List.set_cons_succ]
  refine wpAnyK_take0 9 (v := ?v7) rfl (by kernel_rfl) (fun _ _ _ h => h) (Or.inl ⟨by rfl, ?hy7⟩) (fun _ => hHeld) ?_
  case hy7 => (intro w hSw; go_simp; try with_reducible rfl)
  try simp only [Act.put, List.setIfInBounds_toArray, List.set_cons_zero, List.set_cons_succ]
  refine wpAnyK_step 2 rfl (by kernel_rfl) (fun K hK => ?_)
  go_simp
  refine (clone_any noneT (World.drew w7) (by decide)).mono ?_
  rintro e w8 ⟨rfl, hb78⟩
  have HB8 : Hid (Below w7.heap.size w7 w8) := (below_drewN (Below.refl _ w7) 1).trans hb78
  clear hb78
  try dsimp only
  refine hK.out _ _ ?hk8 ?_
  case hk8 => exact fun _ => HSS.out _ HB8.out
  have hHeld : ((fun (w' : World) => w'.cell? ⟨rb, 3, none⟩ = some (.int .i64 nl))) _ := HSS.out _ HB8.out
  clear hK K
  try simp only [Act.put, List.setIfInBounds_toArray, List.set_cons_zero, List.set_cons_succ]
  refine wpAnyK_take0 7 (v := ?v9) rfl (by kernel_rfl) (fun _ _ _ h => h) (Or.inl ⟨by rfl, ?hy9⟩) (fun _ => hHeld) ?_
  case hy9 => (intro w hSw; go_simp; try with_reducible rfl)
  try simp only [Act.put, List.setIfInBounds_toArray, List.set_cons_zero, List.set_cons_succ]
  refine wpAnyK_step 8 rfl (by kernel_rfl) (fun K hK => ?_)
  go_simp
  try dsimp only
  refine hK.out _ _ ?hk10 ?_
  case hk10 => exact fun _ => HSS.out _ (HB8.out.trans ((alloc_below _ _).mono HB8.out.size))
  clear hK K
  try simp only [Act.put, List.setIfInBounds_toArray, List.set_cons_zero, List.set_cons_succ]
  refine wpAnyK_step 10 rfl (by kernel_rfl) (fun K hK => ?_)
  rw [if_pos (show Region.wanted _ _ = true from rfl)]
  refine wp_append_two (.tmp 70) (.tmp 71) rfl w8.heap.size w4.heap.size _ (.slice a5 n c5) [⟨noneT, nl, 0, true⟩] (outF now til L) rfl (lit_os w8 ⟨noneT, nl, 0, true⟩) rfl ((hO7.out.below HB8.out (Nat.le_refl _)).below (alloc_below w8 _) (Nat.le_refl _)) (by show 1 ≤ 1000000; omega) hOl (by rw [World.size_alloc]; omega) ?_
  intro v10 w10 h10 hc10
  obtain ⟨a10, c10, e10, _⟩ := h10.rd
  obtain ⟨n10, hn10⟩ : ∃ n10, ([⟨noneT, nl, 0, true⟩] ++ outF now til L : List Ks).length = n10 := ⟨_, rfl⟩
  rw [hn10] at e10
  clear hn10
  subst e10
  have x10 : Below w7.heap.size w7 w10 := HB8.out.trans (((alloc_below w8 _).trans (hc10.below (B := w8.heap.size) (by rw [World.size_alloc]; omega) (fun k hk => by have := own_one hk; omega))).mono HB8.out.size)
  have HC10 : Hid (Chf (fun k => k = rb) w w10) := hC7.out.trans (Chf.of_below x10)
  have hO10 : Hid (Os w10 B0 (.slice a10 n10 c10) ([⟨noneT, nl, 0, true⟩] ++ outF now til L)) := h10.base (Nat.le_trans hB0 (Nat.le_trans hC7.out.size HB8.out.size))
  have hcl10 : Hid (Bl 40 w10 rb [.int .i32 1, .int .u32 0, .slice ao L.length cap, .int .i64 nl, .int .i64 now, .bool true]) := hc7.out.below x10 hc7.out.lt
  have s2 := hcl10.out.cell 2 (by simp)
  have f2 := hcl10.out.frozen 2
  simp only [List.getElem_cons_zero, List.getElem_cons_succ] at s2
  clear h10 hc10 x10
  try dsimp only
  refine hK.out _ _ ?hk11 ?_
  case hk11 => exact (fun h => nomatch (h.symm.trans (show _ = true by kernel_rfl)))
  clear hK K
  try simp only [Act.put, List.setIfInBounds_toArray, List.set_cons_zero, List.set_cons_succ]
  refine wpAnyK_take0 11 (v := ?v12) rfl (by kernel_rfl) (fun _ _ _ h => h) (Or.inl ⟨by rfl, ?hy12⟩) (fun h => nomatch (h.symm.trans (show _ = true by kernel_rfl))) ?_
  case hy12 => (intro w hSw; go_simp; try with_reducible rfl)
  try simp only [Act.put, List.setIfInBounds_toArray, List.set_cons_zero, List.set_cons_succ]
  refine wpAnyK_take0 12 (v := ?v13) rfl (by kernel_rfl) (fun _ _ _ h => h) (Or.inl ⟨by rfl, ?hy13⟩) (fun h => nomatch (h.symm.trans (show _ = true by kernel_rfl))) ?_
  case hy13 => (intro w hSw; go_simp; try with_reducible rfl)
  try simp only [Act.put, List.setIfInBounds_toArray, List.set_cons_zero, List.set_cons_succ]
  refine wpAnyK_step 13 rfl (by kernel_rfl) (fun K hK => ?_)
  go_simp
  refine hK.out _ _ ?hk14 ?_
  case hk14 => exact (fun h => nomatch (h.symm.trans (show _ = true by kernel_rfl)))
  clear hK K
  try simp only [Act.put, List.setIfInBounds_toArray, List.set_cons_zero, List.set_cons_succ]
  refine wpAnyK_done (by kernel_rfl) ?_ _
  have hR11 : Hid (Rg (w10.setCell ⟨rb, 2, none⟩ (.slice a10 n10 c10)) B0 rb 1 (.slice a10 n10 c10) ([⟨noneT, nl, 0, true⟩] ++ outF now til L) nl now true) := ⟨hcl10.out.set 2 _, own_chf hO10.out (Chf.set (f := fun k => k = rb) (g := rb) (j := 2) (Chf.refl _ w10) (.inl rfl) (.slice a10 n10 c10)) (hO10.out.ner hcl10.out), hlow⟩
  have hC11 : Hid (Chf (fun k => k = rb) w (w10.setCell ⟨rb, 2, none⟩ (.slice a10 n10 c10))) := HC10.out.trans (Chf.set (f := fun k => k = rb) (Chf.refl _ w10) (.inl rfl) _)
  obtain ⟨w11, hw11⟩ : ∃ w11, w10.setCell ⟨rb, 2, none⟩ (.slice a10 n10 c10) = w11 := ⟨_, rfl⟩
  rw [hw11] at hR11 hC11
  show _
  try dsimp only [nop]
  rw [hw11]
  clear hw11
  have l1 := hR11.out.cells.cell 0 (by simp)
  simp only [List.getElem_cons_zero] at l1
  go_wp2_with fail
  refine leaves_cons (f := 11) (args := #[.pointer (some ⟨rb, 0, none⟩)]) (by simp) (by simp [go_sem]) ?_
  refine (unlock_deferred muLib ⟨rb, 0, none⟩ .returning _ l1 (hR11.out.cells.frozen 0)).mono ?_
  rintro e u' w'' ⟨rfl, rfl, rfl⟩
  have e1 := hnlh.out
  have e2 := htilh.out
  subst e1 e2
  exact ⟨_, results_tmp rfl _ _ _, rfl, ⟨_, hR11.out.lock 0 (hR11.out.ne)⟩, hC11.out.trans (Chf.set (f := fun k => k = rb) (Chf.refl _ w11) (.inl rfl) _)⟩

end Go.Proofs.YtcdcfgkgighmhaaGreatDoor
