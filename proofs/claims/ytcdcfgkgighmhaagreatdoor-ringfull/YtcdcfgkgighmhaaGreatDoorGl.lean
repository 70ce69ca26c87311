import Derived.Test.YtcdcfgkgighmhaaGreatDoorGk
namespace Go.Proofs.YtcdcfgkgighmhaaGreatDoor
open Go.RowKit Go.MuLone
set_option maxRecDepth 100000

theorem Os.ner2 {w : World} {base rb : Nat} {v : Value} {L : List Ks} {cs : List Value} (h : Os w base v L) (h1 : Bl 40 w rb cs) : ∀ g, v.ownBlock = some g → g ≠ rb := by
  rintro g hg rfl
  rcases h.2 with ⟨rfl, _⟩ | ⟨g', cap, cur, rfl, _, hh, _⟩
  · cases hg
  · have e : g' = g := by simpa [Value.ownBlock] using hg
    subst e
    unfold Bl at h1
    rw [hh] at h1
    simp at h1

set_option maxHeartbeats 8000000 in
theorem drop_none (rb B0 : Nat) (v : Value) (L : List Ks) (last clk : Int) (has : Bool) (ver : Int) (w : World) (h : Rg w B0 rb 0 v L last clk has) (hL : L.length ≤ 1000) (hex : ∀ s ∈ L, s.ver ≠ ver) :
    Calls Tryz.prog 8 #[.pointer (some ⟨rb, 0, none⟩), .int .i64 ver] w fun e w' => e = .returned (.int .i64 170) ∧ Rg w' B0 rb 0 v L last clk has ∧ Chf (fun k => B0 ≤ k) w w' := by
  have hne := h.ne
  obtain ⟨ao, cap, rfl, _⟩ := h.own.rd
  have hneh : Hid (∀ g, (Value.slice ao L.length cap).ownBlock = some g → g ≠ rb) := hne
  have hlow := h.low
  obtain ⟨w0, hw0⟩ : ∃ w0, w.alloc (.cells #[.int .i64 ver] 2) = w0 := ⟨_, rfl⟩
  have hb0 : Below w.heap.size w w0 := hw0 ▸ alloc_below _ _
  have hbx : Bl 2 w0 w.heap.size [.int .i64 ver] := hw0 ▸ alloc_bl w [_] 2
  have hcb : Hid (w.heap.size < w0.heap.size) := hbx.lt
  have hR0 := h.below hb0 (Nat.le_refl _)
  have hrbw := h.cells.lt
  have l0 := hR0.cells.cell 0 (by simp)
  have f0 := hR0.cells.frozen 0
  simp only [List.getElem_cons_zero] at l0
  obtain ⟨w1, hw1⟩ : ∃ w1, w0.setCell ⟨rb, 0, none⟩ (.int .i32 1) = w1 := ⟨_, rfl⟩
  have hR1' := hR0.lock 1 hne
  have hC1 : Hid (Chf (fun k => B0 ≤ k) w w1) := by rw [← hw1]; exact (Chf.of_below hb0).trans (Chf.set (f := fun k => B0 ≤ k) (Chf.refl _ w0) (.inl hlow) _)
  have hx1 : Bl 2 w1 w.heap.size [.int .i64 ver] := hbx.chf (f := fun k => k = rb) (by rw [← hw1]; exact Chf.set (f := fun k => k = rb) (Chf.refl _ w0) (.inl rfl) _) (by omega)
  rw [hw1] at hR1'
  have hR1 : Hid (Rg w1 B0 rb 1 (.slice ao L.length cap) L last clk has) := hR1'
  have hsz : Hid (w.heap.size < w1.heap.size) := hx1.lt
  have d2 := hR1'.cells.cell 2 (by simp)
  simp only [List.getElem_cons_zero, List.getElem_cons_succ] at d2
  have IC := index_any (.slice ao L.length cap) L B0 w.heap.size ver w1 hR1'.own (by have := hx1.cell 0 (by simp); simpa using this) hx1.lt hL
  obtain ⟨cb, hcbe⟩ : ∃ cb, w.heap.size = cb := ⟨_, rfl⟩
  rw [hcbe] at IC
  clear h hR1' hne hR0 hbx hx1 hb0
  go_enter_defers Tryz.func8, Tryz.ntmps8
  go_upto_region 1 with fail
  try rw [hw0]
  clear hw0 hcbe
  go_wp2_with (go_at_call 10; refine (lock_free muLib ⟨rb, 0, none⟩ _ l0 f0).mono ?_; rintro e w' ⟨rfl, rfl⟩; rw [hw1]; clear hw1 l0 f0)
  refine IC.mono ?_
  clear IC
  rintro e w2 (⟨i, hi, hv, _⟩ | ⟨_, rfl, hb2⟩)
  · exact absurd hv (hex _ (by rw [getD_eq _ _ hi]; exact List.getElem_mem hi))
  have hRX : Hid (Rg w2 B0 rb 1 (.slice ao L.length cap) L last clk has) := hR1.out.below hb2 (Nat.le_refl _)
  have hCX : Hid (Chf (fun k => B0 ≤ k) w w2) := hC1.out.trans (Chf.of_below hb2)
  clear hb2 hR1 hC1 d2
  have l1 := hRX.out.cells.cell 0 (by simp)
  simp only [List.getElem_cons_zero] at l1
  go_wp2_with fail
  refine leaves_cons (f := 11) (args := #[.pointer (some ⟨rb, 0, none⟩)]) (by simp) (by simp [go_sem]) ?_
  refine (unlock_deferred muLib ⟨rb, 0, none⟩ .returning _ l1 (hRX.out.cells.frozen 0)).mono ?_
  rintro e u' w'' ⟨rfl, rfl, rfl⟩
  exact ⟨_, results_tmp rfl _ _ _, rfl, hRX.out.lock 0 hneh.out, hCX.out.trans (Chf.set (f := fun k => B0 ≤ k) (Chf.refl _ w2) (.inl hlow) _)⟩

set_option maxHeartbeats 8000000 in
theorem drop_ok (rb B0 : Nat) (v : Value) (L : List Ks) (last clk : Int) (has : Bool) (ver : Int) (w : World) (h : Rg w B0 rb 0 v L last clk has) (hL : L.length ≤ 1000) (hex : ∃ s ∈ L, s.ver = ver) :
    Calls Tryz.prog 8 #[.pointer (some ⟨rb, 0, none⟩), .int .i64 ver] w fun e w' => e = .returned (.int .i64 0) ∧ (∃ (i : Nat) (v' : Value), i < L.length ∧ (L.getD i ks0).ver = ver ∧ Rg w' B0 rb 0 v' (L.eraseIdx i) last clk has) ∧ Chf (fun k => B0 ≤ k) w w' := by
  have hne := h.ne
  obtain ⟨ao, cap, rfl, _⟩ := h.own.rd
  have hneh : Hid (∀ g, (Value.slice ao L.length cap).ownBlock = some g → g ≠ rb) := hne
  have hlow := h.low
  obtain ⟨w0, hw0⟩ : ∃ w0, w.alloc (.cells #[.int .i64 ver] 2) = w0 := ⟨_, rfl⟩
  have hb0 : Below w.heap.size w w0 := hw0 ▸ alloc_below _ _
  have hbx : Bl 2 w0 w.heap.size [.int .i64 ver] := hw0 ▸ alloc_bl w [_] 2
  have hcb : Hid (w.heap.size < w0.heap.size) := hbx.lt
  have hR0 := h.below hb0 (Nat.le_refl _)
  have hrbw := h.cells.lt
  have l0 := hR0.cells.cell 0 (by simp)
  have f0 := hR0.cells.frozen 0
  simp only [List.getElem_cons_zero] at l0
  obtain ⟨w1, hw1⟩ : ∃ w1, w0.setCell ⟨rb, 0, none⟩ (.int .i32 1) = w1 := ⟨_, rfl⟩
  have hR1' := hR0.lock 1 hne
  have hC1 : Hid (Chf (fun k => B0 ≤ k) w w1) := by rw [← hw1]; exact (Chf.of_below hb0).trans (Chf.set (f := fun k => B0 ≤ k) (Chf.refl _ w0) (.inl hlow) _)
  have hx1 : Bl 2 w1 w.heap.size [.int .i64 ver] := hbx.chf (f := fun k => k = rb) (by rw [← hw1]; exact Chf.set (f := fun k => k = rb) (Chf.refl _ w0) (.inl rfl) _) (by omega)
  rw [hw1] at hR1'
  have hR1 : Hid (Rg w1 B0 rb 1 (.slice ao L.length cap) L last clk has) := hR1'
  have hsz : Hid (w.heap.size < w1.heap.size) := hx1.lt
  have d2 := hR1'.cells.cell 2 (by simp)
  simp only [List.getElem_cons_zero, List.getElem_cons_succ] at d2
  have IC := index_any (.slice ao L.length cap) L B0 w.heap.size ver w1 hR1'.own (by have := hx1.cell 0 (by simp); simpa using this) hx1.lt hL
  obtain ⟨cb, hcbe⟩ : ∃ cb, w.heap.size = cb := ⟨_, rfl⟩
  rw [hcbe] at IC
  clear h hR1' hne hR0 hbx hx1 hb0
  go_enter_defers Tryz.func8, Tryz.ntmps8
  go_upto_region 1 with fail
  try rw [hw0]
  clear hw0 hcbe
  go_wp2_with (go_at_call 10; refine (lock_free muLib ⟨rb, 0, none⟩ _ l0 f0).mono ?_; rintro e w' ⟨rfl, rfl⟩; rw [hw1]; clear hw1 l0 f0)
  refine IC.mono ?_
  clear IC
  rintro e w2 (⟨i, hi, hv, _, rfl, hb2⟩ | ⟨hno, _⟩)
  rotate_left
  · obtain ⟨s, hs, e⟩ := hex; exact absurd e (hno s hs)
  have hR2 : Hid (Rg w2 B0 rb 1 (.slice ao L.length cap) L last clk has) := hR1.out.below hb2 (Nat.le_refl _)
  have hC2 : Hid (Chf (fun k => B0 ≤ k) w w2) := hC1.out.trans (Chf.of_below hb2)
  have hvh : Hid ((L.getD i ks0).ver = ver) := hv
  have r2 := hR2.out.cells.cell 2 (by simp)
  simp only [List.getElem_cons_zero, List.getElem_cons_succ] at r2
  have DC := delete_all (.slice ao L.length cap) B0 L i w2 hR2.out.own hi hL
  have hii : ¬ ((i : Int) < 0) := by omega
  have hwr : IntKind.i64.wrap ((i : Int) + 1) = (i : Int) + 1 := by simp [IntKind.wrap, IntKind.bits, IntKind.signed]; omega
  clear hb2 hR1 hC1 d2 hv hex
  go_wp2_with fail
  refine DC.mono ?_
  clear DC
  rintro e w3 ⟨v3', rfl, hO3', hC3'⟩
  obtain ⟨a3, c3, e3, _⟩ := hO3'.rd
  obtain ⟨n3, hn3e⟩ : ∃ n3, (L.eraseIdx i).length = n3 := ⟨_, rfl⟩
  rw [hn3e] at e3
  subst e3
  obtain ⟨v3, hv3⟩ : ∃ v3, Value.slice a3 n3 c3 = v3 := ⟨_, rfl⟩
  rw [hv3] at hO3'
  clear hn3e
  have hb3 := hR2.out.cells.chf hC3' (fun e => hneh.out _ e rfl)
  have r3 := hb3.cell 2 (by simp)
  have g3 := hb3.frozen 2
  simp only [List.getElem_cons_zero, List.getElem_cons_succ] at r3
  have hO3 : Hid (Os w3 B0 v3 (L.eraseIdx i)) := hO3'
  have hC3 : Hid (Chf (fun k => B0 ≤ k) w w3) := hC2.out.trans ⟨hC3'.os, hC3'.tape, hC3'.output, hC3'.size, fun k hk hn => hC3'.block k hk (fun e => hn (own_block hR2.out.own k e))⟩
  obtain ⟨w4, hw4⟩ : ∃ w4, w3.setCell ⟨rb, 2, none⟩ v3 = w4 := ⟨_, rfl⟩
  have hb4 : Bl 40 w4 rb [.int .i32 1, .int .u32 0, v3, .int .i64 last, .int .i64 clk, .bool has] := hw4 ▸ hb3.set 2 v3
  have hn3 := hO3'.ner2 hb3
  have hRX : Hid (Rg w4 B0 rb 1 v3 (L.eraseIdx i) last clk has) := ⟨hb4, by rw [← hw4]; exact own_chf hO3' (Chf.set (f := fun k => k = rb) (Chf.refl _ w3) (.inl rfl) v3) hn3, hlow⟩
  subst hv3
  have hCX : Hid (Chf (fun k => B0 ≤ k) w w4) := hw4 ▸ hC3.out.trans (Chf.set (f := fun k => B0 ≤ k) (Chf.refl _ w3) (.inl hlow) _)
  clear hO3' hC3' hb3 hC3 hb4 hn3 hO3 hC2 hR2 r2
  have l1 := hRX.out.cells.cell 0 (by simp)
  simp only [List.getElem_cons_zero] at l1
  go_wp2_with fail
  refine leaves_cons (f := 11) (args := #[.pointer (some ⟨rb, 0, none⟩)]) (by simp) (by simp [go_sem]) ?_
  refine (unlock_deferred muLib ⟨rb, 0, none⟩ .returning _ l1 (hRX.out.cells.frozen 0)).mono ?_
  rintro e u' w'' ⟨rfl, rfl, rfl⟩
  exact ⟨_, results_tmp rfl _ _ _, rfl, ⟨i, _, hi, hvh.out, hRX.out.lock 0 hRX.out.ne⟩, hCX.out.trans (Chf.set (f := fun k => B0 ≤ k) (Chf.refl _ w4) (.inl hlow) _)⟩

end Go.Proofs.YtcdcfgkgighmhaaGreatDoor
