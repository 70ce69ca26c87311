import Derived.Test.YtcdcfgkgighmhaaGreatDoorSh
namespace Go.Proofs.YtcdcfgkgighmhaaGreatDoor
open Go.RowKit Go.Shelf

theorem results_cell {fn : Func} {p : Tmp} {ty : TypeId} (h : fn.results = #[.cell p ty]) (tmps : Array Value) (P : Program) (w : World) :
    (results fn tmps).run P w = ((asAddr (tmps.getD p undef)).run P w).andThen fun a w₁ => (loadVar ty a).run P w₁ := by
  simp only [results, h]
  simp [Sem.run_bind, Result.andThen]
set_option maxRecDepth 100000 in
set_option maxHeartbeats 2000000 in
theorem numberNode_any {B : Nat} (l : List UInt8) (w : World) (hl : l.length ≤ 1073741824) (hG : GL B w) (hBw : B ≤ w.heap.size) :
    Calls Tryz.prog 70 #[.string ⟨l.toArray⟩] w fun e w' => e = .returned (.agg #[.int .i64 (numN l).kind, .string ⟨(numN l).key.toArray⟩, .string ⟨(numN l).text.toArray⟩, .bool (numN l).whole, .int .i64 (numN l).int, .int .i64 (numN l).kids]) ∧ Below w.heap.size w w' := by
  have hA := alloc_below w (Obj.cells #[.int .i64 0, .string ⟨#[]⟩, .string ⟨#[]⟩, .bool false, .int .i64 0, .int .i64 0] 59)
  have hGA := hG.below (hA.mono hBw)
  obtain ⟨t1, p1, t2, p2, e1, e2⟩ := hGA.er
  have C := Dec.whole_any l _ (by omega) t1 t2 p1 p2 e1 e2
  have HBA : Hid (Below w.heap.size w (w.alloc (Obj.cells #[.int .i64 0, .string ⟨#[]⟩, .string ⟨#[]⟩, .bool false, .int .i64 0, .int .i64 0] 59))) := hA
  have HNA : Hid (Bl 59 (w.alloc (Obj.cells #[.int .i64 0, .string ⟨#[]⟩, .string ⟨#[]⟩, .bool false, .int .i64 0, .int .i64 0] 59)) w.heap.size [.int .i64 0, .string ⟨#[]⟩, .string ⟨#[]⟩, .bool false, .int .i64 0, .int .i64 0]) := alloc_bl _ _ _
  show Calls _ _ _ _ fun e w' => e = .returned (.agg #[.int .i64 4, .string ⟨#[]⟩, .string ⟨l.toArray⟩, .bool (Dec.wholeV (Dec.pcut l)).2, .int .i64 (Dec.wholeV (Dec.pcut l)).1, .int .i64 0]) ∧ Below w.heap.size w w'
  generalize (Dec.wholeV (Dec.pcut l)).1 = A at *
  generalize (Dec.wholeV (Dec.pcut l)).2 = F at *
  clear hA hGA e1 e2 hG
  go_enter Tryz.func70, Tryz.ntmps70
  go_wp2_with fail
  refine C.mono ?_
  clear C
  rintro e w1 ⟨rfl, hB1⟩
  have HN1 : Hid (Bl 59 w1 w.heap.size [.int .i64 0, .string ⟨#[]⟩, .string ⟨#[]⟩, .bool false, .int .i64 0, .int .i64 0]) := HNA.out.below hB1 HNA.out.lt
  have HB1 : Hid (Below w.heap.size w w1) := HBA.out.trans (hB1.mono HBA.out.size)
  have e0 := HN1.out.cell 0 (by simp)
  have e1 := HN1.out.cell 1 (by simp)
  have e2 := HN1.out.cell 2 (by simp)
  have e3 := HN1.out.cell 3 (by simp)
  have e4 := HN1.out.cell 4 (by simp)
  have e5 := HN1.out.cell 5 (by simp)
  simp only [List.getElem_cons_zero, List.getElem_cons_succ] at e0 e1 e2 e3 e4 e5
  have f0 := HN1.out.frozen 0
  have f1 := HN1.out.frozen 1
  have f2 := HN1.out.frozen 2
  have f3 := HN1.out.frozen 3
  have f4 := HN1.out.frozen 4
  have f5 := HN1.out.frozen 5
  clear hB1
  have hb := ((((((But.refl w1 w.heap.size).set 0 (.int .i64 4)).set 1 (.string ⟨#[]⟩)).set 2 (.string ⟨l.toArray⟩)).set 3 (.bool F)).set 4 (.int .i64 A)).set 5 (.int .i64 0)
  have HB2 := HB1.out.trans (hb.below HB1.out.size (Nat.le_refl _))
  have HB3 : Hid _ := HB2
  clear hb HB2
  go_wp2
  (try simp only [Exit.inBlock, Exit.then])
  refine bodyPost_ret (v := .agg #[.int .i64 4, .string ⟨#[]⟩, .string ⟨l.toArray⟩, .bool F, .int .i64 A, .int .i64 0]) ?_ rfl ⟨rfl, HB3.out⟩
  rw [results_cell rfl]; go_simp

set_option maxRecDepth 100000 in
set_option maxHeartbeats 8000000 in
theorem begin_any {B : Nat} {w : World} {b : Nat} {t : List UInt8} {s : JS} {nv ov : Value} {mb : Nat} {c q : Int} (k a : Nat) (h : RS B w b t s nv ov mb c q) (hok : OKs s) (hp : s.pos ≤ 1000000000) (_hk : k ≤ 7) :
    Calls Tryz.prog 65 #[.pointer (some ⟨b, 0, none⟩), .int .i64 (k : Int), .int .i64 (a : Int)] w fun e w' => Below B w w' ∧
      (∀ s', beginF k a s = .go s' → e = .returned (.bool true) ∧ ∃ nv' ov', RS B w' b t s' nv' ov' mb c q) ∧
      (∀ c' p', beginF k a s = .bad c' p' → e = .returned (.bool false) ∧ ∃ s2, RS B w' b t s2 nv ov mb c' p') := by
  have c4 := h.rb.c4
  have c1 := h.rb.c1
  have f1 := h.rb.fz 1
  obtain ⟨a4, k4, e4, hk4, _⟩ := own_slice h.opn
  subst e4
  simp only at c4
  have hlen := hok.len
  have hcnt := hok.cnt
  have H : Hid (RS B w b t s nv (.slice a4 s.opn.length k4) mb c q) := h
  by_cases hd : s.opn.length = 32
  · have HM : Hid (beginF k a s = .bad 11 s.pos) := by show _ = _; unfold beginF; rw [if_pos hd]
    have hdb : ((s.opn.length : Int) == 32) = true := by simp; omega
    have C := fail_any w b t s.pos _ c q 11 (s.pos : Int) h.rb
    clear h hok hd
    go_enter Tryz.func65, Tryz.ntmps65
    go_wp2_with fail
    refine C.mono ?_
    rintro e w1 ⟨rfl, hB1, hR1⟩
    go_wp2
    go_ret
    refine ⟨H.out.bel hB1, ?_, ?_⟩
    · intro s' e; rw [HM.out] at e; cases e
    · intro c' p' e; rw [HM.out] at e; cases e; exact ⟨rfl, s, H.out.but hB1 hR1 rfl rfl rfl⟩
  · have hdb : ((s.opn.length : Int) == 32) = false := by simp; omega
    obtain ⟨s1, hs1⟩ : ∃ s1, s1 = addF (nd0 k) { s with pos := s.pos + 1 } := ⟨_, rfl⟩
    obtain ⟨N, hN⟩ : ∃ N, N = s.nodes.length := ⟨_, rfl⟩
    have hl1 : s1.nodes.length = N + 1 := by rw [hs1, addF_nodes, hN]
    have HM : Hid (beginF k a s = .go { s1 with opn := s1.opn ++ [N], aw := a }) := by
      show _ = _
      unfold beginF
      rw [if_neg hd]
      simp only
      rw [← hs1, hl1]
      rfl
    have HR0 : Hid (RS B (w.setCell ⟨b, 1, none⟩ (.int .i64 (s.pos + 1 : Nat))) b t { s with pos := s.pos + 1 } nv (.slice a4 s.opn.length k4) mb c q) := h.but ((But.refl _ _).set _ _) (h.rb.pos _) rfl rfl rfl
    have HB0 : Hid (Below B w (w.setCell ⟨b, 1, none⟩ (.int .i64 (s.pos + 1 : Nat)))) := h.bel ((But.refl _ _).set _ _)
    have C : Calls Tryz.prog 67 #[.pointer (some ⟨b, 0, none⟩), .agg #[.int .i64 (k : Int), .string ⟨#[]⟩, .string ⟨#[]⟩, .bool false, .int .i64 0, .int .i64 0]] _ _ := add_any (nd0 k) HR0.out hok.op hok.len (show s.nodes.length ≤ 1000000000 by omega) hok.kid
    rw [← hs1] at C
    have hol : s1.opn.length ≤ 31 := by rw [hs1, addF_opn]; show s.opn.length ≤ 31; omega
    have HN : Hid (s1.nodes.length = N + 1) := hl1
    have hNb : N ≤ 1000000000 := by omega
    have hwr : IntKind.i64.wrap (N : Int) = (N : Int) := IntWalk.i64_in _ (by omega)
    obtain ⟨i1, hj, hy0, hy1, hy2⟩ := info_parts infoI
    clear h hok hd hs1 hl1 hN
    go_enter Tryz.func65, Tryz.ntmps65
    go_wp2_with fail
    refine C.mono ?_
    clear C
    rintro e wv ⟨rfl, hB1, nv1, hR1⟩
    have HB2 : Hid (Below B w wv) := HB0.out.trans hB1
    obtain ⟨aN, kN, eN, hkN, _⟩ := own_slice hR1.nod
    rw [HN.out] at eN hkN
    subst eN
    have HR2 : Hid (RS B wv b t s1 (.slice aN (N + 1) kN) (.slice a4 s.opn.length k4) mb c q) := hR1
    obtain ⟨ov, hov⟩ : ∃ ov, ov = Value.slice a4 s.opn.length k4 := ⟨_, rfl⟩
    rw [← hov] at HR2
    have c4 := HR2.out.rb.c4
    have c3 := HR2.out.rb.c3
    simp only at c3 c4
    clear hB1 hR1 hov
    go_wp2
    refine wp_region_K 15 (fun (w' : World) => w'.cell? ⟨b, 4, none⟩ = some ov ∧ w'.cell? ⟨b, 3, none⟩ = some (.slice aN (N + 1) kN)) (by kernel_rfl) ?_
    have hHeld : ((fun (w' : World) => w'.cell? ⟨b, 4, none⟩ = some ov ∧ w'.cell? ⟨b, 3, none⟩ = some (.slice aN (N + 1) kN))) (World.drew _) := ⟨c4, c3⟩
    refine wpAnyK_take0 0 (v := ?v1) rfl (by kernel_rfl) (fun _ _ _ h => h) (Or.inl ⟨by rfl, ?hy1⟩) (fun _ => hHeld) ?_
    case hy1 => (intro w hSw; go_simp; try with_reducible rfl)
    try simp only [Act.put, List.setIfInBounds_toArray, List.set_cons_zero, List.set_cons_succ]
    refine wpAnyK_take0 1 (v := ?v2) rfl (by kernel_rfl) (fun _ _ _ h => h) (Or.inl ⟨by rfl, ?hy2⟩) (fun _ => hHeld) ?_
    case hy2 => (intro w hSw; go_simp; try with_reducible rfl)
    try simp only [Act.put, List.setIfInBounds_toArray, List.set_cons_zero, List.set_cons_succ]
    refine wpAnyK_take0 2 (v := ?v3) rfl (by kernel_rfl) (fun _ _ _ h => h) (Or.inl ⟨by rfl, ?hy3⟩) (fun _ => hHeld) ?_
    case hy3 => (intro w hSw; go_simp; try with_reducible rfl)
    try simp only [Act.put, List.setIfInBounds_toArray, List.set_cons_zero, List.set_cons_succ]
    refine wpAnyK_take0 3 (v := ?v4) rfl (by kernel_rfl) (fun _ _ _ h => h) (Or.inl ⟨by rfl, ?hy4⟩) (fun _ => hHeld) ?_
    case hy4 => (intro w hSw; go_simp; try with_reducible rfl)
    try simp only [Act.put, List.setIfInBounds_toArray, List.set_cons_zero, List.set_cons_succ]
    refine wpAnyK_take 4 [12, 15] (v := ?v5) rfl (by kernel_rfl) (fun _ _ _ h => h) (Or.inl ⟨by rfl, ?hy5⟩) hHeld ?_
    case hy5 => (intro w hSw; (try dsimp only at hSw); go_simp; try with_reducible rfl)
    try simp only [Act.put, List.setIfInBounds_toArray, List.set_cons_zero, List.set_cons_succ]
    refine wpAnyK_take0 5 (v := ?v6) rfl (by kernel_rfl) (fun _ _ _ h => h) (Or.inl ⟨by rfl, ?hy6⟩) (fun _ => hHeld) ?_
    case hy6 => (intro w hSw; go_simp; try with_reducible rfl)
    try simp only [Act.put, List.setIfInBounds_toArray, List.set_cons_zero, List.set_cons_succ]
    refine wpAnyK_take0 6 (v := ?v7) rfl (by kernel_rfl) (fun _ _ _ h => h) (Or.inl ⟨by rfl, ?hy7⟩) (fun _ => hHeld) ?_
    case hy7 => (intro w hSw; go_simp; try with_reducible rfl)
    try simp only [Act.put, List.setIfInBounds_toArray, List.set_cons_zero, List.set_cons_succ]
    refine wpAnyK_take0 7 (v := ?v8) rfl (by kernel_rfl) (fun _ _ _ h => h) (Or.inl ⟨by rfl, ?hy8⟩) (fun _ => hHeld) ?_
    case hy8 => (intro w hSw; go_simp; try with_reducible rfl)
    try simp only [Act.put, List.setIfInBounds_toArray, List.set_cons_zero, List.set_cons_succ]
    refine wpAnyK_take 8 [9, 10, 11, 12, 15] (v := ?v9) rfl (by kernel_rfl) (fun _ _ _ h => h) (Or.inl ⟨by rfl, ?hy9⟩) hHeld ?_
    case hy9 => (intro w hSw; (try dsimp only at hSw); go_simp; try with_reducible rfl)
    try simp only [Act.put, List.setIfInBounds_toArray, List.set_cons_zero, List.set_cons_succ]
    refine wpAnyK_take0 9 (v := ?v10) rfl (by kernel_rfl) (fun _ _ _ h => h) (Or.inl ⟨by rfl, ?hy10⟩) (fun _ => hHeld) ?_
    case hy10 => (intro w hSw; go_simp; try with_reducible rfl)
    try simp only [Act.put, List.setIfInBounds_toArray, List.set_cons_zero, List.set_cons_succ]
    refine wpAnyK_take0 10 (v := ?v11) rfl (by kernel_rfl) (fun _ _ _ h => h) (Or.inl ⟨by rfl, ?hy11⟩) (fun _ => hHeld) ?_
    case hy11 => (intro w hSw; go_simp; (try rw [hwr]); try with_reducible rfl)
    try simp only [Act.put, List.setIfInBounds_toArray, List.set_cons_zero, List.set_cons_succ]
    refine wpAnyK_step 11 rfl (by kernel_rfl) (fun K9 hK => ?_)
    go_simp
    have HBB : Hid (Below B wv (wv.drew.alloc (Obj.cells #[.int .i64 (N : Int)] 3))) := (alloc_below_drew wv _).mono HR2.out.blo
    have HSB : Hid (RS B (wv.drew.alloc (Obj.cells #[.int .i64 (N : Int)] 3)) b t s1 (.slice aN (N + 1) kN) ov mb c q) := HR2.out.below (alloc_below_drew wv _)
    have HNB : Hid (Bl 3 (wv.drew.alloc (Obj.cells #[.int .i64 (N : Int)] 3)) wv.heap.size [.int .i64 (N : Int)]) := alloc_bl wv.drew _ _
    have HNW : Hid (∀ j u, ([.int .i64 (N : Int)] : List Value)[j]? = some u → (wv.drew.alloc (Obj.cells #[.int .i64 (N : Int)] 3)).cell? ((⟨wv.heap.size, 0, none⟩ : Addr).add j) = some u) := fun j u hu => by (obtain ⟨hlt, e⟩ := List.getElem?_eq_some_iff.1 hu; rw [Addr.add_mid, Nat.zero_add, ← e]; exact HNB.out.cell j hlt)
    have HKB : Hid ((fun (w' : World) => w'.cell? ⟨b, 4, none⟩ = some ov ∧ w'.cell? ⟨b, 3, none⟩ = some (.slice aN (N + 1) kN)) (wv.drew.alloc (Obj.cells #[.int .i64 (N : Int)] 3))) := ⟨HSB.out.rb.c4, HSB.out.rb.c3⟩
    refine hK.out _ _ ?hk12 ?_
    case hk12 => exact fun _ => HKB.out
    have hHeld : (fun (w' : World) => w'.cell? ⟨b, 4, none⟩ = some ov ∧ w'.cell? ⟨b, 3, none⟩ = some (.slice aN (N + 1) kN)) _ := HKB.out
    clear hK
    try simp only [Act.put, List.setIfInBounds_toArray, List.set_cons_zero, List.set_cons_succ]
    refine wpAnyK_step 12 rfl (by kernel_rfl) (fun K9 hK => ?_)
    rw [if_pos (by rfl)]
    refine wp_append_own_wide _ (.tmp 34) (.tmp 41) 60 rfl B 3 i1 (.int .i64 0) 1 8 Tryz.underlying60 hj hy0 hy1 hy2 rfl (by decide) ov s1.opn.length (s1.opn.map iV) rfl HSB.out.opn ⟨wv.heap.size, 0, none⟩ 1 1 [.int .i64 (N : Int)] rfl rfl HNW.out (by intro u hu; simp at hu; subst hu; rfl) (by unfold maxLen; omega) (by omega) HSB.out.blo ?_
    intro vZ wY hownZ hgrowZ hnilZ
    have HSZ : Hid (RS B (wY.setCell ⟨b, 4, none⟩ vZ) b t { s1 with opn := s1.opn ++ [N] } (.slice aN (N + 1) kN) vZ mb c q) := HSB.out.open (i := N) hownZ hgrowZ
    have HBZ : Hid (Below B w (wY.setCell ⟨b, 4, none⟩ vZ)) := (HB2.out.trans HBB.out).trans (HSB.out.open_below hgrowZ)
    have HRY : Hid (RB wY b t s1.pos ⟨.int .i64 (s1.aw : Int), (.slice aN (N + 1) kN), ov, .string ⟨s1.key.toArray⟩, .map (some mb)⟩ c q) := bl_grown HSB.out.rb hgrowZ (block_apart HSB.out.opn HSB.out.rb hne_ir)
    have cY : wY.cell? ⟨b, 4, none⟩ = some ov := HRY.out.c4
    have cY3 : wY.cell? ⟨b, 3, none⟩ = some (.slice aN (N + 1) kN) := HRY.out.c3
    have fY := HRY.out.fz 4
    have HKY : Hid ((fun (w' : World) => w'.cell? ⟨b, 4, none⟩ = some ov ∧ w'.cell? ⟨b, 3, none⟩ = some (.slice aN (N + 1) kN)) wY) := ⟨cY, cY3⟩
    obtain ⟨aZ, kZ, rfl, _, _⟩ := own_slice hownZ
    obtain ⟨aL, kL, rfl, _, _⟩ := own_slice HR2.out.opn
    clear hownZ hgrowZ hnilZ
    refine hK.out _ _ ?hk13 ?_
    case hk13 => exact fun _ => HKY.out
    have hHeld : (fun (w' : World) => w'.cell? ⟨b, 4, none⟩ = some (.slice aL s1.opn.length kL) ∧ w'.cell? ⟨b, 3, none⟩ = some (.slice aN (N + 1) kN)) _ := HKY.out
    clear hK
    try simp only [Act.put, List.setIfInBounds_toArray, List.set_cons_zero, List.set_cons_succ]
    refine wpAnyK_take0 13 (v := ?v14) rfl (by kernel_rfl) (fun _ _ _ h => h) (Or.inl ⟨by rfl, ?hy14⟩) (fun _ => hHeld) ?_
    case hy14 => (intro w hSw; go_simp; try with_reducible rfl)
    try simp only [Act.put, List.setIfInBounds_toArray, List.set_cons_zero, List.set_cons_succ]
    refine wpAnyK_take0 14 (v := ?v15) rfl (by kernel_rfl) (fun _ _ _ h => h) (Or.inl ⟨by rfl, ?hy15⟩) (fun _ => hHeld) ?_
    case hy15 => (intro w hSw; go_simp; try with_reducible rfl)
    try simp only [Act.put, List.setIfInBounds_toArray, List.set_cons_zero, List.set_cons_succ]
    refine wpAnyK_step 15 rfl (by kernel_rfl) (fun K hK => ?_)
    go_simp
    refine hK.out _ _ ?hk16 ?_
    case hk16 => exact (fun h => nomatch (h.symm.trans (show _ = true by kernel_rfl)))
    clear hK K
    try simp only [Act.put, List.setIfInBounds_toArray, List.set_cons_zero, List.set_cons_succ]
    refine wpAnyK_done (by kernel_rfl) ?_ _
    have HSZ' : Hid (RS B (wY.setCell ⟨b, 4, none⟩ (.slice aZ (s1.opn.length + 1) kZ)) b t { s1 with opn := s1.opn ++ [N] } (.slice aN (N + 1) kN) (.slice aZ (s1.opn.length + 1) kZ) mb c q) := HSZ.out
    generalize (wY.setCell ⟨b, 4, none⟩ (.slice aZ (s1.opn.length + 1) kZ)) = wZ at *
    have c2 := HSZ'.out.rb.c2
    have f2 := HSZ'.out.rb.fz 2
    simp only at c2
    have HS2 : Hid (RS B (wZ.setCell ⟨b, 2, none⟩ (.int .i64 (a : Int))) b t { s1 with opn := s1.opn ++ [N], aw := a } (.slice aN (N + 1) kN) (.slice aZ (s1.opn.length + 1) kZ) mb c q) := HSZ'.out.but ((But.refl _ _).set _ _) (by have := HSZ'.out.rb.s2 (.int .i64 (a : Int)); exact this) rfl rfl rfl
    have HB3 : Hid (Below B w (wZ.setCell ⟨b, 2, none⟩ (.int .i64 (a : Int)))) := HBZ.out.trans (HSZ'.out.bel ((But.refl _ _).set _ _))
    go_wp2
    go_ret
    refine ⟨HB3.out, ?_, ?_⟩
    · intro s' e; rw [HM.out] at e; cases e; exact ⟨rfl, _, _, HS2.out⟩
    · intro c' p' e; rw [HM.out] at e; cases e
end Go.Proofs.YtcdcfgkgighmhaaGreatDoor
