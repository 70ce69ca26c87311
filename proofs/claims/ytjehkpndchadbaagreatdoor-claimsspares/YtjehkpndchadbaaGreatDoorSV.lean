import Derived.Test.YtjehkpndchadbaaGreatDoorSU
import Derived.Test.YtjehkpndchadbaaGreatDoorDcWh
import Derived.Laws.ResultCell
namespace Go.Proofs.YtjehkpndchadbaaGreatDoor
open Go.RowKit Go.Shelf

/-- The open ones' row has grown by one; has one less. -/
theorem RS.open {B : Nat} {w w' : World} {b : Nat} {t : List UInt8} {s : JS} {nv ov v' : Value} {mb : Nat} {c q : Int} {i : Nat} (h : RS B w b t s nv ov mb c q)
    (ho : w'.ownsRow B 3 1 v' (s.opn.length + 1) (s.opn.map iV ++ [iV i])) (hg : w.grownBy w' ov.ownBlock) : RS B (w'.setCell ⟨b, 4, none⟩ v') b t { s with opn := s.opn ++ [i] } nv v' mb c q := by
  have hnb : ov.ownBlock ≠ some b := block_apart h.opn h.rb hne_ir
  have hr2 : RB w' b t s.pos ⟨.int .i64 (s.aw : Int), nv, ov, .string ⟨s.key.toArray⟩, .map (some mb)⟩ c q := bl_grown h.rb hg hnb
  have hno : ∀ g, nv.ownBlock = some g → ov.ownBlock ≠ some g := fun g hg => kinds_apart h.nod h.opn hne_ni hg
  refine ⟨h.lo, h.mlo, ?_, hr2.s4 v', ?_, ?_, ?_⟩
  · have := hg.size; have := h.blo; simp; omega
  · have a2 : nv.ownBlock ≠ some b := block_apart h.nod h.rb hne_nr
    refine own_keep h.nod fun g hgo => ?_
    rw [heap_setCell_other w' _ g _ (fun e => a2 (by rw [hgo]; exact congrArg some e))]
    exact hg.block g (h.nod.lt g hgo).2 (fun e => hno g hgo e.symm)
  · show (w'.setCell _ _).ownsRow B 3 1 v' (s.opn ++ [i]).length ((s.opn ++ [i]).map iV)
    rw [List.length_append, List.map_append]
    have a3 : v'.ownBlock ≠ some b := block_apart ho hr2 hne_ir
    exact own_keep ho fun g hgv => heap_setCell_other w' _ g _ (fun e => a3 (by rw [hgv]; exact congrArg some e))
  · have hmb : mb ≠ b := h.met.ne_bl h.rb
    refine h.met.keep ?_
    rw [heap_setCell_other w' ⟨b, 4, none⟩ mb _ hmb]
    exact hg.block mb h.met.lt (fun e => h.met.ne_own h.opn e.symm)
theorem RS.open_below {B : Nat} {w w' : World} {b : Nat} {t : List UInt8} {s : JS} {nv ov v' : Value} {mb : Nat} {c q : Int} (h : RS B w b t s nv ov mb c q) (hg : w.grownBy w' ov.ownBlock) : Below B w (w'.setCell ⟨b, 4, none⟩ v') :=
  Below.setCell (Below.grown (Below.refl _ _) hg h.blo (own_block h.opn)) h.lo _
theorem RS.shut {B : Nat} {w : World} {b : Nat} {t : List UInt8} {s : JS} {nv : Value} {g cap : Nat} {mb : Nat} {c q : Int} {xs : List Nat} {i : Nat} (h : RS B w b t s nv (.slice (some ⟨g, 0, none⟩) (xs.length + 1) cap) mb c q) (ho : s.opn = xs ++ [i]) :
    RS B (w.setCell ⟨b, 4, none⟩ (.slice (some ⟨g, 0, none⟩) xs.length cap)) b t { s with opn := xs } nv (.slice (some ⟨g, 0, none⟩) xs.length cap) mb c q := by
  have hb : But w (w.setCell ⟨b, 4, none⟩ (.slice (some ⟨g, 0, none⟩) xs.length cap)) b := (But.refl _ _).set _ _
  have h1 := h.opn
  rw [ho, List.length_append, List.map_append] at h1
  have h2 : w.ownsRow B 3 1 (.slice (some ⟨g, 0, none⟩) xs.length cap) xs.length (xs.map iV) := own_short (n := xs.length) (y := iV i) h1
  refine ⟨h.lo, h.mlo, by simpa using h.blo, h.rb.s4 _, own_but h.nod h.rb hne_nr hb, own_but h2 h.rb hne_ir hb, h.met.keep (hb.block mb h.met.lt (h.met.ne_bl h.rb))⟩

set_option maxRecDepth 100000 in
set_option maxHeartbeats 4000000 in
theorem close_any {B : Nat} {w : World} {b : Nat} {t : List UInt8} {s : JS} {nv ov : Value} {mb : Nat} {c q : Int} (h : RS B w b t s nv ov mb c q) (hne : s.opn ≠ []) (hop : ∀ i ∈ s.opn, i < s.nodes.length) (hol : s.opn.length ≤ 32) (hnl : s.nodes.length ≤ 1000000000) :
    Calls Tryz.prog 38 #[.pointer (some ⟨b, 0, none⟩)] w fun e w' => e = .returned (.bool true) ∧ Below B w w' ∧ ∃ ov', RS B w' b t (closeF s) nv ov' mb c q := by
  obtain ⟨xs, i, hox⟩ := snoc_of hne
  obtain ⟨g, cap, rfl, hcap, _⟩ := h.last hox
  have HC : Hid (closeF s = endF { s with opn := xs }) := by show _ = _; unfold closeF; rw [hox, List.dropLast_concat]
  have c4 := h.rb.c4
  have f4 := h.rb.fz 4
  have HB1 : Hid (Below B w ((w.drewN 1).setCell ⟨b, 4, none⟩ (.slice (some ⟨g, 0, none⟩) xs.length cap))) := Below.setCell (below_drewN (Below.refl _ _) 1) h.lo _
  have HR1 : Hid (RS B ((w.drewN 1).setCell ⟨b, 4, none⟩ (.slice (some ⟨g, 0, none⟩) xs.length cap)) b t { s with opn := xs } nv (.slice (some ⟨g, 0, none⟩) xs.length cap) mb c q) := (h.drewN 1).shut hox
  have HOP : Hid (∀ i ∈ xs, i < s.nodes.length) := fun j hj => hop j (by rw [hox]; simp [hj])
  have hxl : xs.length ≤ 31 := by rw [hox] at hol; simp at hol; omega
  have hxc : xs.length ≤ cap := by omega
  have C := ended_any HR1.out HOP.out (by show xs.length ≤ 32; omega) (by show s.nodes.length ≤ _; omega)
  have H : Hid (RS B w b t s nv (.slice (some ⟨g, 0, none⟩) (xs.length + 1) cap) mb c q) := h
  clear h hox hop hne hol
  go_enter Tryz.func38, Tryz.ntmps38
  go_wp2
  refine wp_region_tail 14 (by kernel_rfl) (by kernel_rfl) ?_
  simp only [List.take_succ_cons, List.take_zero, List.drop_succ_cons, List.drop_zero]
  repeat (first | go_big_quiet_skip | (go_big_quiet_want; go_big_quiet_op; go_big_quiet_on))
  refine wpQuiet_nil ?_
  go_wp2_with fail
  refine C.mono ?_
  rintro e wE ⟨rfl, hBE, hRE⟩
  go_wp2
  go_ret
  rw [HC.out]
  exact ⟨rfl, HB1.out.trans (HR1.out.bel hBE), _, hRE⟩

set_option maxHeartbeats 1000000 in
theorem mark_any {B : Nat} {w : World} {b : Nat} {t : List UInt8} {s : JS} {nv ov : Value} {mb : Nat} {c q : Int} (sg : UInt8) (a : Nat) (h : RS B w b t s nv ov mb c q) (hp : s.pos ≤ t.length) (ht : t.length ≤ 1073741824) :
    Calls Tryz.prog 41 #[.pointer (some ⟨b, 0, none⟩), .string { data := #[sg] }, .int .i64 (a : Int)] w fun e w' => Below B w w' ∧
      (∀ s', markF t sg a s = .go s' → e = .returned (.bool true) ∧ RS B w' b t s' nv ov mb c q) ∧
      (∀ c' p', markF t sg a s = .bad c' p' → e = .returned (.bool false) ∧ ∃ s2, RS B w' b t s2 nv ov mb c' p') := by
  have C : Calls Tryz.prog 31 #[.pointer (some ⟨b, 0, none⟩), .string { data := #[sg] }] w fun e w' => e = .returned (.bool (tk t [sg] s.pos)) ∧ But w w' b ∧ RB w' b t (stp (tk t [sg] s.pos) s.pos) ⟨.int .i64 (s.aw : Int), nv, ov, .string ⟨s.key.toArray⟩, .map (some mb)⟩ c q := take_any w b t [sg] s.pos _ c q h.rb hp ht
  have H : Hid (RS B w b t s nv ov mb c q) := h
  clear h
  cases htk : tk t [sg] s.pos
  · rw [htk] at C
    have HM : Hid (markF t sg a s = .bad 31 s.pos) := by show _ = _; unfold markF; rw [htk]; rfl
    clear htk
    go_enter Tryz.func41, Tryz.ntmps41
    go_wp2_with fail
    refine C.mono ?_
    clear C
    rintro e w1 ⟨rfl, hB1, hR1⟩
    have HS1 : Hid (RS B w1 b t s nv ov mb c q) := H.out.but hB1 hR1 rfl rfl rfl
    have HB1 : Hid (Below B w w1) := H.out.bel hB1
    have C2 := wrong_any w1 b t s.pos _ c q HS1.out.rb
    clear hB1 hR1
    go_wp2_with fail
    refine C2.mono ?_
    rintro e w2 ⟨rfl, hB2, hR2⟩
    go_wp2
    go_ret
    refine ⟨HB1.out.trans (HS1.out.bel hB2), ?_, ?_⟩
    · intro s' e; rw [HM.out] at e; cases e
    · intro c' p' e; rw [HM.out] at e; cases e; exact ⟨rfl, s, HS1.out.but hB2 hR2 rfl rfl rfl⟩
  · rw [htk] at C
    have HM : Hid (markF t sg a s = .go { s with pos := s.pos + 1, aw := a }) := by show _ = _; unfold markF; rw [htk]; rfl
    clear htk
    go_enter Tryz.func41, Tryz.ntmps41
    go_wp2_with fail
    refine C.mono ?_
    clear C
    rintro e w1 ⟨rfl, hB1, hR1⟩
    have HS1 : Hid (RS B w1 b t { s with pos := s.pos + 1 } nv ov mb c q) := H.out.but hB1 hR1 rfl rfl rfl
    have HB1 : Hid (Below B w w1) := H.out.bel hB1
    have c2 := HS1.out.rb.c2
    have f2 := HS1.out.rb.fz 2
    simp only at c2
    have HS2 : Hid (RS B (w1.setCell ⟨b, 2, none⟩ (.int .i64 (a : Int))) b t { s with pos := s.pos + 1, aw := a } nv ov mb c q) := HS1.out.but ((But.refl _ _).set _ _) (by have := HS1.out.rb.s2 (.int .i64 (a : Int)); exact this) rfl rfl rfl
    have HB2 : Hid (Below B w (w1.setCell ⟨b, 2, none⟩ (.int .i64 (a : Int)))) := HB1.out.trans (HS1.out.bel ((But.refl _ _).set _ _))
    clear hB1 hR1
    go_wp2
    go_ret
    refine ⟨HB2.out, ?_, ?_⟩
    · intro s' e; rw [HM.out] at e; cases e; exact ⟨rfl, HS2.out⟩
    · intro c' p' e; rw [HM.out] at e; cases e

end Go.Proofs.YtjehkpndchadbaaGreatDoor

namespace Go.Proofs.YtjehkpndchadbaaGreatDoor
open Go.RowKit Go.Shelf

theorem results_cell {fn : Func} {p : Tmp} {ty : TypeId} (h : fn.results = #[.cell p ty]) (tmps : Array Value) (P : Program) (w : World) :
    (results fn tmps).run P w = ((asAddr (tmps.getD p undef)).run P w).andThen fun a w₁ => (loadVar ty a).run P w₁ := by
  simp only [results, h]
  simp [Sem.run_bind, Result.andThen]
set_option maxRecDepth 100000 in
set_option maxHeartbeats 2000000 in
theorem numberNode_any {B : Nat} (l : List UInt8) (w : World) (hl : l.length ≤ 1073741824) (hG : GL B w) (hBw : B ≤ w.heap.size) :
    Calls Tryz.prog 50 #[.string ⟨l.toArray⟩] w fun e w' => e = .returned (.agg #[.int .i64 (numN l).kind, .string ⟨(numN l).key.toArray⟩, .string ⟨(numN l).text.toArray⟩, .bool (numN l).whole, .int .i64 (numN l).int, .int .i64 (numN l).kids]) ∧ Below w.heap.size w w' := by
  have hA := alloc_below w (Obj.cells #[.int .i64 0, .string ⟨#[]⟩, .string ⟨#[]⟩, .bool false, .int .i64 0, .int .i64 0] 37)
  have hGA := hG.below (hA.mono hBw)
  obtain ⟨t1, p1, t2, p2, e1, e2⟩ := hGA.er
  have C := Dec.whole_any l _ (by omega) t1 t2 p1 p2 e1 e2
  have HBA : Hid (Below w.heap.size w (w.alloc (Obj.cells #[.int .i64 0, .string ⟨#[]⟩, .string ⟨#[]⟩, .bool false, .int .i64 0, .int .i64 0] 37))) := hA
  have HNA : Hid (Bl 37 (w.alloc (Obj.cells #[.int .i64 0, .string ⟨#[]⟩, .string ⟨#[]⟩, .bool false, .int .i64 0, .int .i64 0] 37)) w.heap.size [.int .i64 0, .string ⟨#[]⟩, .string ⟨#[]⟩, .bool false, .int .i64 0, .int .i64 0]) := alloc_bl _ _ _
  show Calls _ _ _ _ fun e w' => e = .returned (.agg #[.int .i64 4, .string ⟨#[]⟩, .string ⟨l.toArray⟩, .bool (Dec.wholeV (Dec.pcut l)).2, .int .i64 (Dec.wholeV (Dec.pcut l)).1, .int .i64 0]) ∧ Below w.heap.size w w'
  generalize (Dec.wholeV (Dec.pcut l)).1 = A at *
  generalize (Dec.wholeV (Dec.pcut l)).2 = F at *
  clear hA hGA e1 e2 hG
  go_enter Tryz.func50, Tryz.ntmps50
  go_wp2_with fail
  refine C.mono ?_
  clear C
  rintro e w1 ⟨rfl, hB1⟩
  have HN1 : Hid (Bl 37 w1 w.heap.size [.int .i64 0, .string ⟨#[]⟩, .string ⟨#[]⟩, .bool false, .int .i64 0, .int .i64 0]) := HNA.out.below hB1 HNA.out.lt
  have HB1 : Hid (Below w.heap.size w w1) := HBA.out.trans (hB1.mono HBA.out.size)
  have e0 := HN1.out.cell 0 (by simp)
  have e1 := HN1.out.cell 1 (by simp)
  have e2 := HN1.out.cell 2 (by simp)
  have e3 := HN1.out.cell 3 (by simp)
  have e4 := HN1.out.cell 4 (by simp)
  have e5 := HN1.out.cell 5 (by simp)
  simp only [List.getElem_cons_zero, List.getElem_cons_succ] at e0 e1 e2 e3 e4 e5
  have f0 := HN1.out.frozen 0
  have f1 := HN1.out.frozen 1
  have f2 := HN1.out.frozen 2
  have f3 := HN1.out.frozen 3
  have f4 := HN1.out.frozen 4
  have f5 := HN1.out.frozen 5
  clear hB1
  have hb := ((((((But.refl w1 w.heap.size).set 0 (.int .i64 4)).set 1 (.string ⟨#[]⟩)).set 2 (.string ⟨l.toArray⟩)).set 3 (.bool F)).set 4 (.int .i64 A)).set 5 (.int .i64 0)
  have HB2 := HB1.out.trans (hb.below HB1.out.size (Nat.le_refl _))
  have HB3 : Hid _ := HB2
  clear hb HB2
  go_wp2
  (try simp only [Exit.inBlock, Exit.then])
  refine bodyPost_ret (v := .agg #[.int .i64 4, .string ⟨#[]⟩, .string ⟨l.toArray⟩, .bool F, .int .i64 A, .int .i64 0]) ?_ rfl ⟨rfl, HB3.out⟩
  rw [results_cell rfl]; go_simp

set_option maxRecDepth 100000 in
set_option maxHeartbeats 8000000 in
theorem begin_any {B : Nat} {w : World} {b : Nat} {t : List UInt8} {s : JS} {nv ov : Value} {mb : Nat} {c q : Int} (k a : Nat) (h : RS B w b t s nv ov mb c q) (hok : OKs s) (hp : s.pos ≤ 1000000000) (_hk : k ≤ 7) :
    Calls Tryz.prog 45 #[.pointer (some ⟨b, 0, none⟩), .int .i64 (k : Int), .int .i64 (a : Int)] w fun e w' => Below B w w' ∧
      (∀ s', beginF k a s = .go s' → e = .returned (.bool true) ∧ ∃ nv' ov', RS B w' b t s' nv' ov' mb c q) ∧
      (∀ c' p', beginF k a s = .bad c' p' → e = .returned (.bool false) ∧ ∃ s2, RS B w' b t s2 nv ov mb c' p') := by
  have c4 := h.rb.c4
  have c1 := h.rb.c1
  have f1 := h.rb.fz 1
  obtain ⟨a4, k4, e4, hk4, _⟩ := own_slice h.opn
  subst e4
  simp only at c4
  have hlen := hok.len
  have hcnt := hok.cnt
  have H : Hid (RS B w b t s nv (.slice a4 s.opn.length k4) mb c q) := h
  by_cases hd : s.opn.length = 32
  · have HM : Hid (beginF k a s = .bad 11 s.pos) := by show _ = _; unfold beginF; rw [if_pos hd]
    have hdb : ((s.opn.length : Int) == 32) = true := by simp; omega
    have C := fail_any w b t s.pos _ c q 11 (s.pos : Int) h.rb
    clear h hok hd
    go_enter Tryz.func45, Tryz.ntmps45
    go_wp2_with fail
    refine C.mono ?_
    rintro e w1 ⟨rfl, hB1, hR1⟩
    go_wp2
    go_ret
    refine ⟨H.out.bel hB1, ?_, ?_⟩
    · intro s' e; rw [HM.out] at e; cases e
    · intro c' p' e; rw [HM.out] at e; cases e; exact ⟨rfl, s, H.out.but hB1 hR1 rfl rfl rfl⟩
  · have hdb : ((s.opn.length : Int) == 32) = false := by simp; omega
    obtain ⟨s1, hs1⟩ : ∃ s1, s1 = addF (nd0 k) { s with pos := s.pos + 1 } := ⟨_, rfl⟩
    obtain ⟨N, hN⟩ : ∃ N, N = s.nodes.length := ⟨_, rfl⟩
    have hl1 : s1.nodes.length = N + 1 := by rw [hs1, addF_nodes, hN]
    have HM : Hid (beginF k a s = .go { s1 with opn := s1.opn ++ [N], aw := a }) := by
      show _ = _
      unfold beginF
      rw [if_neg hd]
      simp only
      rw [← hs1, hl1]
      rfl
    have HR0 : Hid (RS B (w.setCell ⟨b, 1, none⟩ (.int .i64 (s.pos + 1 : Nat))) b t { s with pos := s.pos + 1 } nv (.slice a4 s.opn.length k4) mb c q) := h.but ((But.refl _ _).set _ _) (h.rb.pos _) rfl rfl rfl
    have HB0 : Hid (Below B w (w.setCell ⟨b, 1, none⟩ (.int .i64 (s.pos + 1 : Nat)))) := h.bel ((But.refl _ _).set _ _)
    have C : Calls Tryz.prog 47 #[.pointer (some ⟨b, 0, none⟩), .agg #[.int .i64 (k : Int), .string ⟨#[]⟩, .string ⟨#[]⟩, .bool false, .int .i64 0, .int .i64 0]] _ _ := add_any (nd0 k) HR0.out hok.op hok.len (show s.nodes.length ≤ 1000000000 by omega) hok.kid
    rw [← hs1] at C
    have hol : s1.opn.length ≤ 31 := by rw [hs1, addF_opn]; show s.opn.length ≤ 31; omega
    have HN : Hid (s1.nodes.length = N + 1) := hl1
    have hNb : N ≤ 1000000000 := by omega
    have hwr : IntKind.i64.wrap (N : Int) = (N : Int) := IntWalk.i64_in _ (by omega)
    obtain ⟨i1, hj, hy0, hy1, hy2⟩ := info_parts infoI
    clear h hok hd hs1 hl1 hN
    go_enter Tryz.func45, Tryz.ntmps45
    go_wp2_with fail
    refine C.mono ?_
    clear C
    rintro e wv ⟨rfl, hB1, nv1, hR1⟩
    have HB2 : Hid (Below B w wv) := HB0.out.trans hB1
    obtain ⟨aN, kN, eN, hkN, _⟩ := own_slice hR1.nod
    rw [HN.out] at eN hkN
    subst eN
    have HR2 : Hid (RS B wv b t s1 (.slice aN (N + 1) kN) (.slice a4 s.opn.length k4) mb c q) := hR1
    obtain ⟨ov, hov⟩ : ∃ ov, ov = Value.slice a4 s.opn.length k4 := ⟨_, rfl⟩
    rw [← hov] at HR2
    have c4 := HR2.out.rb.c4
    have c3 := HR2.out.rb.c3
    simp only at c3 c4
    clear hB1 hR1 hov
    go_wp2
    refine wp_region_K 15 (fun (w' : World) => w'.cell? ⟨b, 4, none⟩ = some ov ∧ w'.cell? ⟨b, 3, none⟩ = some (.slice aN (N + 1) kN)) (by kernel_rfl) ?_
    have hHeld : ((fun (w' : World) => w'.cell? ⟨b, 4, none⟩ = some ov ∧ w'.cell? ⟨b, 3, none⟩ = some (.slice aN (N + 1) kN))) (World.drew _) := ⟨c4, c3⟩
    refine wpAnyK_take0 0 (v := ?v1) rfl (by kernel_rfl) (fun _ _ _ h => h) (Or.inl ⟨by rfl, ?hy1⟩) (fun _ => hHeld) ?_
    case hy1 => (intro w hSw; go_simp; try with_reducible rfl)
    try simp only [Act.put, List.setIfInBounds_toArray, List.set_cons_zero, List.set_cons_succ]
    refine wpAnyK_take0 1 (v := ?v2) rfl (by kernel_rfl) (fun _ _ _ h => h) (Or.inl ⟨by rfl, ?hy2⟩) (fun _ => hHeld) ?_
    case hy2 => (intro w hSw; go_simp; try with_reducible rfl)
    try simp only [Act.put, List.setIfInBounds_toArray, List.set_cons_zero, List.set_cons_succ]
    refine wpAnyK_take0 2 (v := ?v3) rfl (by kernel_rfl) (fun _ _ _ h => h) (Or.inl ⟨by rfl, ?hy3⟩) (fun _ => hHeld) ?_
    case hy3 => (intro w hSw; go_simp; try with_reducible rfl)
    try simp only [Act.put, List.setIfInBounds_toArray, List.set_cons_zero, List.set_cons_succ]
    refine wpAnyK_take0 3 (v := ?v4) rfl (by kernel_rfl) (fun _ _ _ h => h) (Or.inl ⟨by rfl, ?hy4⟩) (fun _ => hHeld) ?_
    case hy4 => (intro w hSw; go_simp; try with_reducible rfl)
    try simp only [Act.put, List.setIfInBounds_toArray, List.set_cons_zero, List.set_cons_succ]
    refine wpAnyK_take 4 [12, 15] (v := ?v5) rfl (by kernel_rfl) (fun _ _ _ h => h) (Or.inl ⟨by rfl, ?hy5⟩) hHeld ?_
    case hy5 => (intro w hSw; (try dsimp only at hSw); go_simp; try with_reducible rfl)
    try simp only [Act.put, List.setIfInBounds_toArray, List.set_cons_zero, List.set_cons_succ]
    refine wpAnyK_take0 5 (v := ?v6) rfl (by kernel_rfl) (fun _ _ _ h => h) (Or.inl ⟨by rfl, ?hy6⟩) (fun _ => hHeld) ?_
    case hy6 => (intro w hSw; go_simp; try with_reducible rfl)
    try simp only [Act.put, List.setIfInBounds_toArray, List.set_cons_zero, List.set_cons_succ]
    refine wpAnyK_take0 6 (v := ?v7) rfl (by kernel_rfl) (fun _ _ _ h => h) (Or.inl ⟨by rfl, ?hy7⟩) (fun _ => hHeld) ?_
    case hy7 => (intro w hSw; go_simp; try with_reducible rfl)
    try simp only [Act.put, List.setIfInBounds_toArray, List.set_cons_zero, List.set_cons_succ]
    refine wpAnyK_take0 7 (v := ?v8) rfl (by kernel_rfl) (fun _ _ _ h => h) (Or.inl ⟨by rfl, ?hy8⟩) (fun _ => hHeld) ?_
    case hy8 => (intro w hSw; go_simp; try with_reducible rfl)
    try simp only [Act.put, List.setIfInBounds_toArray, List.set_cons_zero, List.set_cons_succ]
    refine wpAnyK_take 8 [9, 10, 11, 12, 15] (v := ?v9) rfl (by kernel_rfl) (fun _ _ _ h => h) (Or.inl ⟨by rfl, ?hy9⟩) hHeld ?_
    case hy9 => (intro w hSw; (try dsimp only at hSw); go_simp; try with_reducible rfl)
    try simp only [Act.put, List.setIfInBounds_toArray, List.set_cons_zero, List.set_cons_succ]
    refine wpAnyK_take0 9 (v := ?v10) rfl (by kernel_rfl) (fun _ _ _ h => h) (Or.inl ⟨by rfl, ?hy10⟩) (fun _ => hHeld) ?_
    case hy10 => (intro w hSw; go_simp; try with_reducible rfl)
    try simp only [Act.put, List.setIfInBounds_toArray, List.set_cons_zero, List.set_cons_succ]
    refine wpAnyK_take0 10 (v := ?v11) rfl (by kernel_rfl) (fun _ _ _ h => h) (Or.inl ⟨by rfl, ?hy11⟩) (fun _ => hHeld) ?_
    case hy11 => (intro w hSw; go_simp; (try rw [hwr]); try with_reducible rfl)
    try simp only [Act.put, List.setIfInBounds_toArray, List.set_cons_zero, List.set_cons_succ]
    refine wpAnyK_step 11 rfl (by kernel_rfl) (fun K9 hK => ?_)
    go_simp
    have HBB : Hid (Below B wv (wv.drew.alloc (Obj.cells #[.int .i64 (N : Int)] 3))) := (alloc_below_drew wv _).mono HR2.out.blo
    have HSB : Hid (RS B (wv.drew.alloc (Obj.cells #[.int .i64 (N : Int)] 3)) b t s1 (.slice aN (N + 1) kN) ov mb c q) := HR2.out.below (alloc_below_drew wv _)
    have HNB : Hid (Bl 3 (wv.drew.alloc (Obj.cells #[.int .i64 (N : Int)] 3)) wv.heap.size [.int .i64 (N : Int)]) := alloc_bl wv.drew _ _
    have HNW : Hid (∀ j u, ([.int .i64 (N : Int)] : List Value)[j]? = some u → (wv.drew.alloc (Obj.cells #[.int .i64 (N : Int)] 3)).cell? ((⟨wv.heap.size, 0, none⟩ : Addr).add j) = some u) := fun j u hu => by (obtain ⟨hlt, e⟩ := List.getElem?_eq_some_iff.1 hu; rw [Addr.add_mid, Nat.zero_add, ← e]; exact HNB.out.cell j hlt)
    have HKB : Hid ((fun (w' : World) => w'.cell? ⟨b, 4, none⟩ = some ov ∧ w'.cell? ⟨b, 3, none⟩ = some (.slice aN (N + 1) kN)) (wv.drew.alloc (Obj.cells #[.int .i64 (N : Int)] 3))) := ⟨HSB.out.rb.c4, HSB.out.rb.c3⟩
    refine hK.out _ _ ?hk12 ?_
    case hk12 => exact fun _ => HKB.out
    have hHeld : (fun (w' : World) => w'.cell? ⟨b, 4, none⟩ = some ov ∧ w'.cell? ⟨b, 3, none⟩ = some (.slice aN (N + 1) kN)) _ := HKB.out
    clear hK
    try simp only [Act.put, List.setIfInBounds_toArray, List.set_cons_zero, List.set_cons_succ]
    refine wpAnyK_step 12 rfl (by kernel_rfl) (fun K9 hK => ?_)
    rw [if_pos (by rfl)]
    refine wp_append_own_wide _ (.tmp 34) (.tmp 41) 51 rfl B 3 i1 (.int .i64 0) 1 8 Tryz.underlying51 hj hy0 hy1 hy2 rfl (by decide) ov s1.opn.length (s1.opn.map iV) rfl HSB.out.opn ⟨wv.heap.size, 0, none⟩ 1 1 [.int .i64 (N : Int)] rfl rfl HNW.out (by intro u hu; simp at hu; subst hu; rfl) (by unfold maxLen; omega) (by omega) HSB.out.blo ?_
    intro vZ wY hownZ hgrowZ hnilZ
    have HSZ : Hid (RS B (wY.setCell ⟨b, 4, none⟩ vZ) b t { s1 with opn := s1.opn ++ [N] } (.slice aN (N + 1) kN) vZ mb c q) := HSB.out.open (i := N) hownZ hgrowZ
    have HBZ : Hid (Below B w (wY.setCell ⟨b, 4, none⟩ vZ)) := (HB2.out.trans HBB.out).trans (HSB.out.open_below hgrowZ)
    have HRY : Hid (RB wY b t s1.pos ⟨.int .i64 (s1.aw : Int), (.slice aN (N + 1) kN), ov, .string ⟨s1.key.toArray⟩, .map (some mb)⟩ c q) := bl_grown HSB.out.rb hgrowZ (block_apart HSB.out.opn HSB.out.rb hne_ir)
    have cY : wY.cell? ⟨b, 4, none⟩ = some ov := HRY.out.c4
    have cY3 : wY.cell? ⟨b, 3, none⟩ = some (.slice aN (N + 1) kN) := HRY.out.c3
    have fY := HRY.out.fz 4
    have HKY : Hid ((fun (w' : World) => w'.cell? ⟨b, 4, none⟩ = some ov ∧ w'.cell? ⟨b, 3, none⟩ = some (.slice aN (N + 1) kN)) wY) := ⟨cY, cY3⟩
    obtain ⟨aZ, kZ, rfl, _, _⟩ := own_slice hownZ
    obtain ⟨aL, kL, rfl, _, _⟩ := own_slice HR2.out.opn
    clear hownZ hgrowZ hnilZ
    refine hK.out _ _ ?hk13 ?_
    case hk13 => exact fun _ => HKY.out
    have hHeld : (fun (w' : World) => w'.cell? ⟨b, 4, none⟩ = some (.slice aL s1.opn.length kL) ∧ w'.cell? ⟨b, 3, none⟩ = some (.slice aN (N + 1) kN)) _ := HKY.out
    clear hK
    try simp only [Act.put, List.setIfInBounds_toArray, List.set_cons_zero, List.set_cons_succ]
    refine wpAnyK_take0 13 (v := ?v14) rfl (by kernel_rfl) (fun _ _ _ h => h) (Or.inl ⟨by rfl, ?hy14⟩) (fun _ => hHeld) ?_
    case hy14 => (intro w hSw; go_simp; try with_reducible rfl)
    try simp only [Act.put, List.setIfInBounds_toArray, List.set_cons_zero, List.set_cons_succ]
    refine wpAnyK_take0 14 (v := ?v15) rfl (by kernel_rfl) (fun _ _ _ h => h) (Or.inl ⟨by rfl, ?hy15⟩) (fun _ => hHeld) ?_
    case hy15 => (intro w hSw; go_simp; try with_reducible rfl)
    try simp only [Act.put, List.setIfInBounds_toArray, List.set_cons_zero, List.set_cons_succ]
    refine wpAnyK_step 15 rfl (by kernel_rfl) (fun K hK => ?_)
    go_simp
    refine hK.out _ _ ?hk16 ?_
    case hk16 => exact (fun h => nomatch (h.symm.trans (show _ = true by kernel_rfl)))
    clear hK K
    try simp only [Act.put, List.setIfInBounds_toArray, List.set_cons_zero, List.set_cons_succ]
    refine wpAnyK_done (by kernel_rfl) ?_ _
    have HSZ' : Hid (RS B (wY.setCell ⟨b, 4, none⟩ (.slice aZ (s1.opn.length + 1) kZ)) b t { s1 with opn := s1.opn ++ [N] } (.slice aN (N + 1) kN) (.slice aZ (s1.opn.length + 1) kZ) mb c q) := HSZ.out
    generalize (wY.setCell ⟨b, 4, none⟩ (.slice aZ (s1.opn.length + 1) kZ)) = wZ at *
    have c2 := HSZ'.out.rb.c2
    have f2 := HSZ'.out.rb.fz 2
    simp only at c2
    have HS2 : Hid (RS B (wZ.setCell ⟨b, 2, none⟩ (.int .i64 (a : Int))) b t { s1 with opn := s1.opn ++ [N], aw := a } (.slice aN (N + 1) kN) (.slice aZ (s1.opn.length + 1) kZ) mb c q) := HSZ'.out.but ((But.refl _ _).set _ _) (by have := HSZ'.out.rb.s2 (.int .i64 (a : Int)); exact this) rfl rfl rfl
    have HB3 : Hid (Below B w (wZ.setCell ⟨b, 2, none⟩ (.int .i64 (a : Int)))) := HBZ.out.trans (HSZ'.out.bel ((But.refl _ _).set _ _))
    go_wp2
    go_ret
    refine ⟨HB3.out, ?_, ?_⟩
    · intro s' e; rw [HM.out] at e; cases e; exact ⟨rfl, _, _, HS2.out⟩
    · intro c' p' e; rw [HM.out] at e; cases e
end Go.Proofs.YtjehkpndchadbaaGreatDoor

namespace Go.Proofs.YtjehkpndchadbaaGreatDoor
open Go.RowKit Go.Shelf

/-- What a reader tells that has met a fault. -/
def Bd (w : World) (b : Nat) (c q : Int) : Prop := w.cell? ⟨b, 7, none⟩ = some (.int .i64 c) ∧ w.cell? ⟨b, 8, none⟩ = some (.int .i64 q)
theorem RB.bd {w : World} {b : Nat} {t : List UInt8} {p : Nat} {x : X5} {c q : Int} (h : RB w b t p x c q) : Bd w b c q := ⟨h.c7, h.c8⟩

/-- Only the map of names has changed. -/
theorem RS.names {B : Nat} {w w' : World} {b : Nat} {t : List UInt8} {s : JS} {nv ov : Value} {mb : Nat} {c q : Int} {l : List (Nat × List UInt8)} (h : RS B w b t s nv ov mb c q) (hb : But w w' mb) (hm : Mp w' mb l) : RS B w' b t { s with met := l } nv ov mb c q := by
  have hmb : mb ≠ b := h.met.ne_bl h.rb
  refine ⟨h.lo, h.mlo, Nat.le_trans h.blo hb.size, Bl.but h.rb hb (fun e => hmb e.symm), ?_, ?_, hm⟩
  · exact own_keep h.nod fun g hg => hb.block g (h.nod.lt g hg).2 fun e => h.met.ne_own h.nod (by rw [hg, e])
  · exact own_keep h.opn fun g hg => hb.block g (h.opn.lt g hg).2 fun e => h.met.ne_own h.opn (by rw [hg, e])

set_option maxRecDepth 100000 in
set_option maxHeartbeats 8000000 in
theorem name_any {B : Nat} {w : World} {b : Nat} {t : List UInt8} {s : JS} {nv ov : Value} {mb : Nat} {c q : Int} (h : RS B w b t s nv ov mb c q) (hG : GL B w) (hok : OKs s) (hne : s.opn ≠ []) (hp : s.pos < t.length) (ht : t.length ≤ 1073741824) :
    Calls Tryz.prog 40 #[.pointer (some ⟨b, 0, none⟩)] w fun e w' => Below B w w' ∧
      (∀ s', nameF t s = .go s' → e = .returned (.bool true) ∧ RS B w' b t s' nv ov mb c q) ∧
      (∀ c' p', nameF t s = .bad c' p' → e = .returned (.bool false) ∧ Bd w' b c' p') := by
  obtain ⟨R, hR⟩ : ∃ R, nameF t s = R := ⟨_, rfl⟩
  rw [hR]
  have HE : Hid (nameF t s = R) := hR
  have c0 := h.rb.c0
  have c1 := h.rb.c1
  obtain ⟨d, hd⟩ : ∃ d, t.getD s.pos 0 = d := ⟨_, rfl⟩
  have gx : (⟨t.toArray⟩ : ByteArray)[s.pos]'(by show s.pos < t.toArray.size; simpa using hp) = d := by
    rw [← hd]; show t.toArray[s.pos] = _; simp [List.getD_eq_getElem?_getD, hp]
  have Hd : Hid (t.getD s.pos 0 = d) := hd
  have H : Hid (RS B w b t s nv ov mb c q) := h
  obtain ⟨xs, i, hox⟩ := snoc_of hne
  have hxl : xs.length ≤ 1000 := by have := hok.len; rw [hox] at this; simp at this; omega
  have hin : inm s = i := by unfold inm; rw [hox, last_snoc]
  have HIN : Hid (inm s = i) := hin
  have HCI : Hid (∀ wq s2, s2.opn = s.opn → RS B wq b t s2 nv ov mb c q → Calls Tryz.prog 52 #[.pointer (some ⟨b, 0, none⟩)] wq fun e w' => e = .returned (.int .i64 (i : Int)) ∧ ∃ m, w' = wq.drewN m) := fun wq s2 e hq => innermost_any hq (e.trans hox) hxl
  have CQ := quoted_any w b t s.pos _ c q h.rb hG.u8 hp ht
  have CW := wrong_any w b t s.pos _ c q h.rb
  generalize hpp : s.pos = p at *
  clear hR hd h hG hok hne hox hin
  by_cases h34 : d = 34
  · subst h34
    have HE2 : Hid ((match quoF t (t.length + 1) (p + 1) [] with
      | .bad c p => Rs.bad c p
      | .ok l p' => if s.met.contains (inm s, l) then Rs.bad 34 p else Rs.go { s with pos := p', key := l, aw := 4, met := s.met ++ [(inm s, l)] }) = R) := by
        show _ = _
        rw [← HE.out]
        unfold nameF
        rw [hpp, Hd.out, if_neg (by simp)]
        rfl
    cases hq : quoF t (t.length + 1) (p + 1) [] with
    | bad c1 q1 =>
      have Hz : Hid (R = .bad c1 q1) := by show _ = _; rw [← HE2.out, hq]
      rw [hq] at CQ
      clear hq HE2 HE CW hpp
      go_enter Tryz.func40, Tryz.ntmps40
      go_wp2_with fail
      refine CQ.mono ?_
      rintro e w1 ⟨hB1, _, h1⟩
      obtain ⟨rfl, p2, hR1⟩ := h1 c1 q1 rfl
      clear h1
      go_wp2
      go_ret
      refine ⟨H.out.bel hB1, ?_, ?_⟩
      · intro s' e; rw [Hz.out] at e; cases e
      · intro c' p' e; rw [Hz.out] at e; cases e; exact ⟨rfl, hR1.bd⟩
    | ok l p1 =>
      have Hz : Hid ((if s.met.contains (i, l) then Rs.bad 34 p else Rs.go { s with pos := p1, key := l, aw := 4, met := s.met ++ [(i, l)] }) = R) := by show _ = _; rw [← HE2.out, hq, HIN.out]
      rw [hq] at CQ
      clear hq HE2 HE CW hpp HIN
      go_enter Tryz.func40, Tryz.ntmps40
      go_wp2_with fail
      refine CQ.mono ?_
      clear CQ
      rintro e w1 ⟨hB1, h1, _⟩
      obtain ⟨rfl, hR1⟩ := h1 l p1 rfl
      have HS1 : Hid (RS B w1 b t { s with pos := p1 } nv ov mb c q) := H.out.but hB1 hR1 rfl rfl rfl
      have HB1 : Hid (Below B w w1) := H.out.bel hB1
      have c6 := HS1.out.rb.c6
      simp only at c6
      have HCI : Hid (∀ wq, RS B wq b t { s with pos := p1 } nv ov mb c q → Calls Tryz.prog 52 #[.pointer (some ⟨b, 0, none⟩)] wq fun e w' => e = .returned (.int .i64 (i : Int)) ∧ ∃ m, w' = wq.drewN m) := fun wq hq => HCI.out wq { s with pos := p1 } rfl hq
      clear h1 hB1 hR1
      by_cases hin : (i, l) ∈ s.met
      · have Hin : Hid ((i, l) ∈ s.met) := hin
        have Hz2 : Hid (R = .bad 34 p) := by show _ = _; rw [← Hz.out, if_pos (by simpa using hin)]
        clear hin Hz
        go_wp2
        refine wp_region_K 7 (fun (w' : World) => w'.cell? ⟨b, 6, none⟩ = some (.map (some mb))) (by kernel_rfl) ?_
        have hHeld : ((fun (w' : World) => w'.cell? ⟨b, 6, none⟩ = some (.map (some mb)))) (World.drew _) := c6
        refine wpAnyK_take0 0 (v := ?v1) rfl (by kernel_rfl) (fun _ _ _ h => h) (Or.inl ⟨by rfl, ?hy1⟩) (fun _ => hHeld) ?_
        case hy1 => (intro w hSw; go_simp; try with_reducible rfl)
        try simp only [Act.put, List.setIfInBounds_toArray, List.set_cons_zero, List.set_cons_succ]
        refine wpAnyK_take0 1 (v := ?v2) rfl (by kernel_rfl) (fun _ _ _ h => h) (Or.inl ⟨by rfl, ?hy2⟩) (fun _ => hHeld) ?_
        case hy2 => (intro w hSw; go_simp; try with_reducible rfl)
        try simp only [Act.put, List.setIfInBounds_toArray, List.set_cons_zero, List.set_cons_succ]
        refine wpAnyK_take0 2 (v := ?v3) rfl (by kernel_rfl) (fun _ _ _ h => h) (Or.inl ⟨by rfl, ?hy3⟩) (fun _ => hHeld) ?_
        case hy3 => (intro w hSw; go_simp; try with_reducible rfl)
        try simp only [Act.put, List.setIfInBounds_toArray, List.set_cons_zero, List.set_cons_succ]
        refine wpAnyK_take 3 [7] (v := ?v4) rfl (by kernel_rfl) (fun _ _ _ h => h) (Or.inl ⟨by rfl, ?hy4⟩) hHeld ?_
        case hy4 => (intro w hSw; (try dsimp only at hSw); go_simp; try with_reducible rfl)
        try simp only [Act.put, List.setIfInBounds_toArray, List.set_cons_zero, List.set_cons_succ]
        refine wpAnyK_take0 4 (v := ?v5) rfl (by kernel_rfl) (fun _ _ _ h => h) (Or.inl ⟨by rfl, ?hy5⟩) (fun _ => hHeld) ?_
        case hy5 => (intro w hSw; go_simp; try with_reducible rfl)
        try simp only [Act.put, List.setIfInBounds_toArray, List.set_cons_zero, List.set_cons_succ]
        refine wpAnyK_take0 6 (v := ?v6) rfl (by kernel_rfl) (fun _ _ _ h => h) (Or.inl ⟨by rfl, ?hy6⟩) (fun _ => hHeld) ?_
        case hy6 => (intro w hSw; go_simp; try with_reducible rfl)
        try simp only [Act.put, List.setIfInBounds_toArray, List.set_cons_zero, List.set_cons_succ]
        refine wpAnyK_step 5 rfl (by kernel_rfl) (fun K9 hK => ?_)
        go_simp
        refine (HCI.out _ (HS1.out.drewN 1)).mono ?_
        rintro e w9 ⟨rfl, m9, rfl⟩
        dsimp only
        refine hK.out _ _ ?hk7 ?_
        case hk7 => exact fun _ => c6
        have hHeld : ((fun (w' : World) => w'.cell? ⟨b, 6, none⟩ = some (.map (some mb)))) _ := c6
        clear hK
        try simp only [Act.put, List.setIfInBounds_toArray, List.set_cons_zero, List.set_cons_succ]
        refine wpAnyK_step 7 rfl (by kernel_rfl) (fun K hK => ?_)
        go_simp
        refine (first_old _ mb i l s.met (HS1.out.drewN (1 + m9)).met Hin.out).mono ?_
        rintro e w3 ⟨rfl, hB3⟩
        dsimp only
        refine hK.out _ _ ?hk8 ?_
        case hk8 => exact (fun h => nomatch (h.symm.trans (show _ = true by kernel_rfl)))
        clear hK K
        try simp only [Act.put, List.setIfInBounds_toArray, List.set_cons_zero, List.set_cons_succ]
        refine wpAnyK_take0 8 (v := ?v9) rfl (by kernel_rfl) (fun _ _ _ h => h) (Or.inl ⟨by rfl, ?hy9⟩) (fun h => nomatch (h.symm.trans (show _ = true by kernel_rfl))) ?_
        case hy9 => (intro w hSw; go_simp; try with_reducible rfl)
        try simp only [Act.put, List.setIfInBounds_toArray, List.set_cons_zero, List.set_cons_succ]
        refine wpAnyK_done (by kernel_rfl) ?_ _
        have hBm : But w1 w3 mb := ((But.refl w1 mb).drewN (1 + m9)).trans hB3
        have HB3 : Hid (Below B w w3) := HB1.out.trans (hBm.below HS1.out.blo HS1.out.mlo)
        have hR3 : RB w3 b t p1 ⟨.int .i64 (s.aw : Int), nv, ov, .string ⟨s.key.toArray⟩, .map (some mb)⟩ c q := Bl.but HS1.out.rb hBm (fun e => HS1.out.met.ne_bl HS1.out.rb e.symm)
        have C3 := fail_any w3 b t p1 _ c q 34 (p : Int) hR3
        have hlo := HS1.out.lo
        have hsz3 := HB3.out.size
        clear hBm hR3 hB3
        have hbw3 : B ≤ w3.heap.size := by have := HS1.out.blo; have := H.out.blo; omega
        go_wp2_with fail
        refine C3.mono ?_
        rintro e w4 ⟨rfl, hB4, hR4⟩
        go_wp2
        go_ret
        refine ⟨HB3.out.trans (hB4.below hbw3 hlo), ?_, ?_⟩
        · intro s' e; rw [Hz2.out] at e; cases e
        · intro c' p' e; rw [Hz2.out] at e; cases e; exact ⟨rfl, hR4.bd⟩
      · have Hin : Hid ((i, l) ∉ s.met) := hin
        have Hz2 : Hid (R = .go { s with pos := p1, key := l, aw := 4, met := s.met ++ [(i, l)] }) := by show _ = _; rw [← Hz.out, if_neg (by simpa using hin)]
        clear hin Hz
        go_wp2
        refine wp_region_K 7 (fun (w' : World) => w'.cell? ⟨b, 6, none⟩ = some (.map (some mb))) (by kernel_rfl) ?_
        have hHeld : ((fun (w' : World) => w'.cell? ⟨b, 6, none⟩ = some (.map (some mb)))) (World.drew _) := c6
        refine wpAnyK_take0 0 (v := ?v10) rfl (by kernel_rfl) (fun _ _ _ h => h) (Or.inl ⟨by rfl, ?hy10⟩) (fun _ => hHeld) ?_
        case hy10 => (intro w hSw; go_simp; try with_reducible rfl)
        try simp only [Act.put, List.setIfInBounds_toArray, List.set_cons_zero, List.set_cons_succ]
        refine wpAnyK_take0 1 (v := ?v11) rfl (by kernel_rfl) (fun _ _ _ h => h) (Or.inl ⟨by rfl, ?hy11⟩) (fun _ => hHeld) ?_
        case hy11 => (intro w hSw; go_simp; try with_reducible rfl)
        try simp only [Act.put, List.setIfInBounds_toArray, List.set_cons_zero, List.set_cons_succ]
        refine wpAnyK_take0 2 (v := ?v12) rfl (by kernel_rfl) (fun _ _ _ h => h) (Or.inl ⟨by rfl, ?hy12⟩) (fun _ => hHeld) ?_
        case hy12 => (intro w hSw; go_simp; try with_reducible rfl)
        try simp only [Act.put, List.setIfInBounds_toArray, List.set_cons_zero, List.set_cons_succ]
        refine wpAnyK_take 3 [7] (v := ?v13) rfl (by kernel_rfl) (fun _ _ _ h => h) (Or.inl ⟨by rfl, ?hy13⟩) hHeld ?_
        case hy13 => (intro w hSw; (try dsimp only at hSw); go_simp; try with_reducible rfl)
        try simp only [Act.put, List.setIfInBounds_toArray, List.set_cons_zero, List.set_cons_succ]
        refine wpAnyK_take0 4 (v := ?v14) rfl (by kernel_rfl) (fun _ _ _ h => h) (Or.inl ⟨by rfl, ?hy14⟩) (fun _ => hHeld) ?_
        case hy14 => (intro w hSw; go_simp; try with_reducible rfl)
        try simp only [Act.put, List.setIfInBounds_toArray, List.set_cons_zero, List.set_cons_succ]
        refine wpAnyK_take0 6 (v := ?v15) rfl (by kernel_rfl) (fun _ _ _ h => h) (Or.inl ⟨by rfl, ?hy15⟩) (fun _ => hHeld) ?_
        case hy15 => (intro w hSw; go_simp; try with_reducible rfl)
        try simp only [Act.put, List.setIfInBounds_toArray, List.set_cons_zero, List.set_cons_succ]
        refine wpAnyK_step 5 rfl (by kernel_rfl) (fun K9 hK => ?_)
        go_simp
        refine (HCI.out _ (HS1.out.drewN 1)).mono ?_
        rintro e w9 ⟨rfl, m9, rfl⟩
        dsimp only
        refine hK.out _ _ ?hk16 ?_
        case hk16 => exact fun _ => c6
        have hHeld : ((fun (w' : World) => w'.cell? ⟨b, 6, none⟩ = some (.map (some mb)))) _ := c6
        clear hK
        try simp only [Act.put, List.setIfInBounds_toArray, List.set_cons_zero, List.set_cons_succ]
        refine wpAnyK_step 7 rfl (by kernel_rfl) (fun K hK => ?_)
        go_simp
        refine (first_new _ mb i l s.met (HS1.out.drewN (1 + m9)).met Hin.out).mono ?_
        rintro e w3 ⟨rfl, hB3, hM3⟩
        dsimp only
        refine hK.out _ _ ?hk17 ?_
        case hk17 => exact (fun h => nomatch (h.symm.trans (show _ = true by kernel_rfl)))
        clear hK K
        try simp only [Act.put, List.setIfInBounds_toArray, List.set_cons_zero, List.set_cons_succ]
        refine wpAnyK_take0 8 (v := ?v18) rfl (by kernel_rfl) (fun _ _ _ h => h) (Or.inl ⟨by rfl, ?hy18⟩) (fun h => nomatch (h.symm.trans (show _ = true by kernel_rfl))) ?_
        case hy18 => (intro w hSw; go_simp; try with_reducible rfl)
        try simp only [Act.put, List.setIfInBounds_toArray, List.set_cons_zero, List.set_cons_succ]
        refine wpAnyK_done (by kernel_rfl) ?_ _
        have hBm : But w1 w3 mb := ((But.refl w1 mb).drewN (1 + m9)).trans hB3
        have HB3 : Hid (Below B w w3) := HB1.out.trans (hBm.below HS1.out.blo HS1.out.mlo)
        have HS3 : Hid (RS B w3 b t { s with pos := p1, met := s.met ++ [(i, l)] } nv ov mb c q) := HS1.out.names hBm hM3
        have d5 := HS3.out.rb.c5
        have d2 := HS3.out.rb.c2
        have g5 := HS3.out.rb.fz 5
        simp only at d5 d2
        have HS4 : Hid (RS B (w3.setCell ⟨b, 5, none⟩ (.string ⟨l.toArray⟩)) b t { s with pos := p1, key := l, met := s.met ++ [(i, l)] } nv ov mb c q) := HS3.out.but ((But.refl _ _).set _ _) (by have := HS3.out.rb.s5 (.string ⟨l.toArray⟩); exact this) rfl rfl rfl
        have d2' := HS4.out.rb.c2
        have g2' := HS4.out.rb.fz 2
        simp only at d2'
        have HS5 : Hid (RS B ((w3.setCell ⟨b, 5, none⟩ (.string ⟨l.toArray⟩)).setCell ⟨b, 2, none⟩ (.int .i64 (4 : Nat))) b t { s with pos := p1, key := l, aw := 4, met := s.met ++ [(i, l)] } nv ov mb c q) := HS4.out.but ((But.refl _ _).set _ _) (by have := HS4.out.rb.s2 (.int .i64 (4 : Nat)); exact this) rfl rfl rfl
        have HB5 : Hid (Below B w ((w3.setCell ⟨b, 5, none⟩ (.string ⟨l.toArray⟩)).setCell ⟨b, 2, none⟩ (.int .i64 (4 : Nat)))) := HB3.out.trans (HS3.out.bel (((But.refl _ _).set _ _).set _ _))
        clear hBm hB3 hM3
        go_wp2
        go_ret
        refine ⟨HB5.out, ?_, ?_⟩
        · intro s' e; rw [Hz2.out] at e; cases e; exact ⟨rfl, HS5.out⟩
        · intro c' p' e; rw [Hz2.out] at e; cases e
  · have h34n : ((d.toNat : Int) == 34) = false := by
      have : d.toNat ≠ 34 := fun e => h34 (UInt8.toNat_inj.1 e)
      simp; omega
    have Hz : Hid (R = .bad 31 p) := by show _ = _; rw [← HE.out]; unfold nameF; rw [hpp, Hd.out, if_pos h34]
    clear HE h34 CQ hpp
    go_enter Tryz.func40, Tryz.ntmps40
    go_wp2_with fail
    refine CW.mono ?_
    rintro e w1 ⟨rfl, hB1, hR1⟩
    go_wp2
    go_ret
    refine ⟨H.out.bel hB1, ?_, ?_⟩
    · intro s' e; rw [Hz.out] at e; cases e
    · intro c' p' e; rw [Hz.out] at e; cases e; exact ⟨rfl, hR1.bd⟩

end Go.Proofs.YtjehkpndchadbaaGreatDoor

namespace Go.Proofs.YtjehkpndchadbaaGreatDoor
open Go.RowKit Go.Shelf

theorem u8_lit {d : UInt8} {n : Nat} (_hn : n < 256) (h : d ≠ UInt8.ofNat n) : ((d.toNat : Int) == (n : Int)) = false := by
  have : d.toNat ≠ n := fun e => h (by rw [← e]; simp)
  simp; omega

set_option maxRecDepth 100000 in
set_option maxHeartbeats 8000000 in
theorem value_any {B : Nat} {w : World} {b : Nat} {t : List UInt8} {s : JS} {nv ov : Value} {mb : Nat} {c q : Int} (h : RS B w b t s nv ov mb c q) (hG : GL B w) (hok : OKs s) (hp : s.pos < t.length) (ht : t.length ≤ 1000000) :
    Calls Tryz.prog 39 #[.pointer (some ⟨b, 0, none⟩)] w fun e w' => Below B w w' ∧
      (∀ s', valueF t s = .go s' → e = .returned (.bool true) ∧ ∃ nv' ov', RS B w' b t s' nv' ov' mb c q) ∧
      (∀ c' p', valueF t s = .bad c' p' → e = .returned (.bool false) ∧ Bd w' b c' p') := by
  obtain ⟨R, hR⟩ : ∃ R, valueF t s = R := ⟨_, rfl⟩
  rw [hR]
  have HE : Hid (valueF t s = R) := hR
  have c0 := h.rb.c0
  have c1 := h.rb.c1
  obtain ⟨d, hd⟩ : ∃ d, t.getD s.pos 0 = d := ⟨_, rfl⟩
  have gx : (⟨t.toArray⟩ : ByteArray)[s.pos]'(by show s.pos < t.toArray.size; simpa using hp) = d := by
    rw [← hd]; show t.toArray[s.pos] = _; simp [List.getD_eq_getElem?_getD, hp]
  have Hd : Hid (t.getD s.pos 0 = d) := hd
  have hdl : d.toNat < 256 := d.toNat_lt
  have H : Hid (RS B w b t s nv ov mb c q) := h
  have HG : Hid (GL B w) := hG
  have HOK : Hid (OKs s) := hok
  have hcnt := hok.cnt
  have HD : Hid (∀ n, RS B (w.drewN n) b t s nv ov mb c q) := fun n => h.drewN n
  have HADD : Hid (∀ (wq : World) (s2 : JS) (n : Nd), s2.opn = s.opn → s2.nodes = s.nodes → RS B wq b t s2 nv ov mb c q → Calls Tryz.prog 47 #[.pointer (some ⟨b, 0, none⟩), .agg #[.int .i64 n.kind, .string ⟨n.key.toArray⟩, .string ⟨n.text.toArray⟩, .bool n.whole, .int .i64 n.int, .int .i64 n.kids]] wq fun e w' => e = .returned (.bool true) ∧ Below B wq w' ∧ ∃ nv', RS B w' b t (addF n s2) nv' ov mb c q) := fun wq s2 n e1 e2 hq => add_any n hq (by rw [e1, e2]; exact hok.op) (by rw [e1]; exact hok.len) (by rw [e2]; omega) (by rw [e2]; exact hok.kid)
  clear hR hd h hG hok
  by_cases h123 : d = 123
  · subst h123
    have Hz : Hid (beginF 7 2 s = R) := by show _ = _; rw [← HE.out]; unfold valueF; simp only; rw [Hd.out]; rfl
    have C := fun n => begin_any 7 2 (HD.out n) HOK.out (by omega) (by omega)
    rw [Hz.out] at C
    have HC : Hid (∀ n, Calls Tryz.prog 45 #[.pointer (some ⟨b, 0, none⟩), .int .i64 7, .int .i64 2] (w.drewN n) fun e w' => Below B (w.drewN n) w' ∧ (∀ s', R = .go s' → e = .returned (.bool true) ∧ ∃ nv' ov', RS B w' b t s' nv' ov' mb c q) ∧ (∀ c' p', R = .bad c' p' → e = .returned (.bool false) ∧ ∃ s2, RS B w' b t s2 nv ov mb c' p')) := C
    clear HE C Hz
    go_enter Tryz.func39, Tryz.ntmps39
    go_wp2
    go_quiet (fail)
    go_wp2_with fail
    refine (HC.out _).mono ?_
    rintro e w1 ⟨hB1, h1, h2⟩
    have HP1 : Hid (∀ s', R = .go s' → e = .returned (.bool true) ∧ ∃ nv' ov', RS B w1 b t s' nv' ov' mb c q) := h1
    have HP2 : Hid (∀ c' p', R = .bad c' p' → e = .returned (.bool false) ∧ ∃ s2, RS B w1 b t s2 nv ov mb c' p') := h2
    have HB1 : Hid (Below B w w1) := ⟨hB1.os, hB1.tape, hB1.output, hB1.size, hB1.block⟩
    clear h1 h2 hB1
    cases hRR : R with
    | go s' =>
      obtain ⟨rfl, hx⟩ := HP1.out s' hRR
      have HX : Hid (∃ nv' ov', RS B w1 b t s' nv' ov' mb c q) := hx
      have HRR : Hid (R = .go s') := hRR
      clear HP1 HP2 hRR hx
      go_wp2
      go_ret
      refine ⟨HB1.out, ?_, ?_⟩
      · intro s' e; rw [HRR.out] at e; cases e; exact ⟨rfl, HX.out⟩
      · intro c' p' e; rw [HRR.out] at e; cases e
    | bad c' p' =>
      obtain ⟨rfl, s2, hx⟩ := HP2.out c' p' hRR
      have HX : Hid (Bd w1 b c' p') := hx.rb.bd
      have HRR : Hid (R = .bad c' p') := hRR
      clear HP1 HP2 hRR hx
      go_wp2
      go_ret
      refine ⟨HB1.out, ?_, ?_⟩
      · intro s' e; rw [HRR.out] at e; cases e
      · intro c' p' e; rw [HRR.out] at e; cases e; exact ⟨rfl, HX.out⟩
  · have n123 : ((d.toNat : Int) == 123) = false := u8_lit (n := 123) (by omega) h123
    by_cases h91 : d = 91
    · subst h91
      have Hz : Hid (beginF 6 0 s = R) := by show _ = _; rw [← HE.out]; unfold valueF; simp only; rw [Hd.out]; rfl
      have C := fun n => begin_any 6 0 (HD.out n) HOK.out (by omega) (by omega)
      rw [Hz.out] at C
      have HC : Hid (∀ n, Calls Tryz.prog 45 #[.pointer (some ⟨b, 0, none⟩), .int .i64 6, .int .i64 0] (w.drewN n) fun e w' => Below B (w.drewN n) w' ∧ (∀ s', R = .go s' → e = .returned (.bool true) ∧ ∃ nv' ov', RS B w' b t s' nv' ov' mb c q) ∧ (∀ c' p', R = .bad c' p' → e = .returned (.bool false) ∧ ∃ s2, RS B w' b t s2 nv ov mb c' p')) := C
      clear HE C Hz
      go_enter Tryz.func39, Tryz.ntmps39
      go_wp2
      go_quiet (fail)
      go_wp2_with fail
      refine (HC.out _).mono ?_
      rintro e w1 ⟨hB1, h1, h2⟩
      have HP1 : Hid (∀ s', R = .go s' → e = .returned (.bool true) ∧ ∃ nv' ov', RS B w1 b t s' nv' ov' mb c q) := h1
      have HP2 : Hid (∀ c' p', R = .bad c' p' → e = .returned (.bool false) ∧ ∃ s2, RS B w1 b t s2 nv ov mb c' p') := h2
      have HB1 : Hid (Below B w w1) := ⟨hB1.os, hB1.tape, hB1.output, hB1.size, hB1.block⟩
      clear h1 h2 hB1
      cases hRR : R with
      | go s' =>
        obtain ⟨rfl, hx⟩ := HP1.out s' hRR
        have HX : Hid (∃ nv' ov', RS B w1 b t s' nv' ov' mb c q) := hx
        have HRR : Hid (R = .go s') := hRR
        clear HP1 HP2 hRR hx
        go_wp2
        go_ret
        refine ⟨HB1.out, ?_, ?_⟩
        · intro s' e; rw [HRR.out] at e; cases e; exact ⟨rfl, HX.out⟩
        · intro c' p' e; rw [HRR.out] at e; cases e
      | bad c' p' =>
        obtain ⟨rfl, s2, hx⟩ := HP2.out c' p' hRR
        have HX : Hid (Bd w1 b c' p') := hx.rb.bd
        have HRR : Hid (R = .bad c' p') := hRR
        clear HP1 HP2 hRR hx
        go_wp2
        go_ret
        refine ⟨HB1.out, ?_, ?_⟩
        · intro s' e; rw [HRR.out] at e; cases e
        · intro c' p' e; rw [HRR.out] at e; cases e; exact ⟨rfl, HX.out⟩
    · have n91 : ((d.toNat : Int) == 91) = false := u8_lit (n := 91) (by omega) h91
      by_cases h34 : d = 34
      · subst h34
        have C := fun n => quoted_any (w.drewN n) b t s.pos _ c q (HD.out n).rb (HG.out.u8.drewN n) hp (by omega)
        cases hq : quoF t (t.length + 1) (s.pos + 1) [] with
        | bad c1 q1 =>
          have Hz : Hid (R = .bad c1 q1) := by show _ = _; rw [← HE.out]; unfold valueF; simp only; rw [Hd.out]; show (match quoF t (t.length + 1) (s.pos + 1) [] with | .ok l p => Rs.go (addF { nd0 5 with text := l } { s with pos := p }) | .bad c p => Rs.bad c p) = _; rw [hq]
          rw [hq] at C
          have HC : Hid (∀ n, Calls Tryz.prog 46 #[.pointer (some ⟨b, 0, none⟩)] (w.drewN n) fun e w' => But (w.drewN n) w' b ∧ (∀ (l9 : List UInt8) (p' : Nat), Lx.bad c1 q1 = .ok l9 p' → e = .returned (.tuple #[.string ⟨l9.toArray⟩, .bool true]) ∧ RB w' b t p' ⟨.int .i64 (s.aw : Int), nv, ov, .string ⟨s.key.toArray⟩, .map (some mb)⟩ c q) ∧ (∀ c' p', Lx.bad c1 q1 = .bad c' p' → e = .returned (.tuple #[.string ⟨#[]⟩, .bool false]) ∧ ∃ p2, RB w' b t p2 ⟨.int .i64 (s.aw : Int), nv, ov, .string ⟨s.key.toArray⟩, .map (some mb)⟩ c' p')) := C
          clear hq HE C
          go_enter Tryz.func39, Tryz.ntmps39
          go_wp2
          go_quiet (fail)
          go_wp2_with fail
          refine (HC.out _).mono ?_
          rintro e w1 ⟨hB1, _, h1⟩
          obtain ⟨rfl, p2, hR1⟩ := h1 c1 q1 rfl
          clear h1
          have HB1 : Hid (Below B w w1) := (((But.refl w b).drewN _).trans hB1).below H.out.blo H.out.lo
          clear hB1
          go_wp2
          go_ret
          refine ⟨HB1.out, ?_, ?_⟩
          · intro s' e; rw [Hz.out] at e; cases e
          · intro c' p' e; rw [Hz.out] at e; cases e; exact ⟨rfl, hR1.bd⟩
        | ok l p1 =>
          have Hz : Hid (R = .go (addF { nd0 5 with text := l } { s with pos := p1 })) := by show _ = _; rw [← HE.out]; unfold valueF; simp only; rw [Hd.out]; show (match quoF t (t.length + 1) (s.pos + 1) [] with | .ok l p => Rs.go (addF { nd0 5 with text := l } { s with pos := p }) | .bad c p => Rs.bad c p) = _; rw [hq]
          rw [hq] at C
          have HC : Hid (∀ n, Calls Tryz.prog 46 #[.pointer (some ⟨b, 0, none⟩)] (w.drewN n) fun e w' => But (w.drewN n) w' b ∧ (∀ (l9 : List UInt8) (p' : Nat), Lx.ok l p1 = .ok l9 p' → e = .returned (.tuple #[.string ⟨l9.toArray⟩, .bool true]) ∧ RB w' b t p' ⟨.int .i64 (s.aw : Int), nv, ov, .string ⟨s.key.toArray⟩, .map (some mb)⟩ c q) ∧ (∀ c' p', Lx.ok l p1 = .bad c' p' → e = .returned (.tuple #[.string ⟨#[]⟩, .bool false]) ∧ ∃ p2, RB w' b t p2 ⟨.int .i64 (s.aw : Int), nv, ov, .string ⟨s.key.toArray⟩, .map (some mb)⟩ c' p')) := C
          clear hq HE C
          go_enter Tryz.func39, Tryz.ntmps39
          go_wp2
          go_quiet (fail)
          go_wp2_with fail
          refine (HC.out _).mono ?_
          rintro e w1 ⟨hB1, h1, _⟩
          obtain ⟨rfl, hR1⟩ := h1 l p1 rfl
          clear h1
          have HS1 : Hid (RS B w1 b t { s with pos := p1 } nv ov mb c q) := H.out.but (((But.refl w b).drewN _).trans hB1) hR1 rfl rfl rfl
          have HB1 : Hid (Below B w w1) := (((But.refl w b).drewN _).trans hB1).below H.out.blo H.out.lo
          clear hB1 hR1 HC
          have C2 := HADD.out w1 { s with pos := p1 } { nd0 5 with text := l } rfl rfl HS1.out
          have HB2 : Hid (Below B w w1) := HB1.out
          go_wp2_with fail
          refine C2.mono ?_
          rintro e w3 ⟨rfl, hB3, nv', hR3⟩
          go_wp2
          go_ret
          refine ⟨HB2.out.trans hB3, ?_, ?_⟩
          · intro s' e; rw [Hz.out] at e; cases e; exact ⟨rfl, _, _, hR3⟩
          · intro c' p' e; rw [Hz.out] at e; cases e
      · have n34 : ((d.toNat : Int) == 34) = false := u8_lit (n := 34) (by omega) h34
        by_cases h110 : d = 110
        · subst h110
          have C := fun n => literal_any (w.drewN n) b t [110, 117, 108, 108] s.pos _ c q (HD.out n).rb (by omega) (by omega) (by simp)
          cases hq : litF t [110, 117, 108, 108] s.pos with
          | bad c1 q1 =>
            have Hz : Hid (R = .bad c1 q1) := by show _ = _; rw [← HE.out]; unfold valueF; simp only; rw [Hd.out]; show litS t [110, 117, 108, 108] 1 s = _; unfold litS; rw [hq]
            rw [hq] at C
            have HC : Hid (∀ n, Calls Tryz.prog 48 #[.pointer (some ⟨b, 0, none⟩), .string { data := #[110, 117, 108, 108] }] (w.drewN n) fun e w' => But (w.drewN n) w' b ∧ (∀ u p', Lx.bad c1 q1 = .ok u p' → e = .returned (.bool true) ∧ RB w' b t p' ⟨.int .i64 (s.aw : Int), nv, ov, .string ⟨s.key.toArray⟩, .map (some mb)⟩ c q) ∧ (∀ c' p', Lx.bad c1 q1 = .bad c' p' → e = .returned (.bool false) ∧ ∃ p2, RB w' b t p2 ⟨.int .i64 (s.aw : Int), nv, ov, .string ⟨s.key.toArray⟩, .map (some mb)⟩ c' p')) := C
            clear hq HE C
            go_enter Tryz.func39, Tryz.ntmps39
            go_wp2
            go_quiet (fail)
            go_wp2_with fail
            refine (HC.out _).mono ?_
            rintro e w1 ⟨hB1, _, h1⟩
            obtain ⟨rfl, p2, hR1⟩ := h1 c1 q1 rfl
            clear h1
            have HB1 : Hid (Below B w w1) := (((But.refl w b).drewN _).trans hB1).below H.out.blo H.out.lo
            clear hB1
            go_wp2
            go_ret
            refine ⟨HB1.out, ?_, ?_⟩
            · intro s' e; rw [Hz.out] at e; cases e
            · intro c' p' e; rw [Hz.out] at e; cases e; exact ⟨rfl, hR1.bd⟩
          | ok u p1 =>
            have Hz : Hid (R = .go (addF (nd0 1) { s with pos := p1 })) := by show _ = _; rw [← HE.out]; unfold valueF; simp only; rw [Hd.out]; show litS t [110, 117, 108, 108] 1 s = _; unfold litS; rw [hq]
            rw [hq] at C
            have HC : Hid (∀ n, Calls Tryz.prog 48 #[.pointer (some ⟨b, 0, none⟩), .string { data := #[110, 117, 108, 108] }] (w.drewN n) fun e w' => But (w.drewN n) w' b ∧ (∀ u p', Lx.ok u p1 = .ok u p' → e = .returned (.bool true) ∧ RB w' b t p' ⟨.int .i64 (s.aw : Int), nv, ov, .string ⟨s.key.toArray⟩, .map (some mb)⟩ c q) ∧ (∀ c' p', Lx.ok u p1 = .bad c' p' → e = .returned (.bool false) ∧ ∃ p2, RB w' b t p2 ⟨.int .i64 (s.aw : Int), nv, ov, .string ⟨s.key.toArray⟩, .map (some mb)⟩ c' p')) := C
            clear hq HE C
            go_enter Tryz.func39, Tryz.ntmps39
            go_wp2
            go_quiet (fail)
            go_wp2_with fail
            refine (HC.out _).mono ?_
            rintro e w1 ⟨hB1, h1, _⟩
            obtain ⟨rfl, hR1⟩ := h1 u p1 rfl
            clear h1
            have HS1 : Hid (RS B w1 b t { s with pos := p1 } nv ov mb c q) := H.out.but (((But.refl w b).drewN _).trans hB1) hR1 rfl rfl rfl
            have HB1 : Hid (Below B w w1) := (((But.refl w b).drewN _).trans hB1).below H.out.blo H.out.lo
            clear hB1 hR1 HC
            have C2 := HADD.out w1 { s with pos := p1 } (nd0 1) rfl rfl HS1.out
            have HB2 : Hid (Below B w w1) := HB1.out
            go_wp2_with fail
            refine C2.mono ?_
            rintro e w3 ⟨rfl, hB3, nv', hR3⟩
            go_wp2
            go_ret
            refine ⟨HB2.out.trans hB3, ?_, ?_⟩
            · intro s' e; rw [Hz.out] at e; cases e; exact ⟨rfl, _, _, hR3⟩
            · intro c' p' e; rw [Hz.out] at e; cases e
        · have n110 : ((d.toNat : Int) == 110) = false := u8_lit (n := 110) (by omega) h110
          by_cases h102 : d = 102
          · subst h102
            have C := fun n => literal_any (w.drewN n) b t [102, 97, 108, 115, 101] s.pos _ c q (HD.out n).rb (by omega) (by omega) (by simp)
            cases hq : litF t [102, 97, 108, 115, 101] s.pos with
            | bad c1 q1 =>
              have Hz : Hid (R = .bad c1 q1) := by show _ = _; rw [← HE.out]; unfold valueF; simp only; rw [Hd.out]; show litS t [102, 97, 108, 115, 101] 2 s = _; unfold litS; rw [hq]
              rw [hq] at C
              have HC : Hid (∀ n, Calls Tryz.prog 48 #[.pointer (some ⟨b, 0, none⟩), .string { data := #[102, 97, 108, 115, 101] }] (w.drewN n) fun e w' => But (w.drewN n) w' b ∧ (∀ u p', Lx.bad c1 q1 = .ok u p' → e = .returned (.bool true) ∧ RB w' b t p' ⟨.int .i64 (s.aw : Int), nv, ov, .string ⟨s.key.toArray⟩, .map (some mb)⟩ c q) ∧ (∀ c' p', Lx.bad c1 q1 = .bad c' p' → e = .returned (.bool false) ∧ ∃ p2, RB w' b t p2 ⟨.int .i64 (s.aw : Int), nv, ov, .string ⟨s.key.toArray⟩, .map (some mb)⟩ c' p')) := C
              clear hq HE C
              go_enter Tryz.func39, Tryz.ntmps39
              go_wp2
              go_quiet (fail)
              go_wp2_with fail
              refine (HC.out _).mono ?_
              rintro e w1 ⟨hB1, _, h1⟩
              obtain ⟨rfl, p2, hR1⟩ := h1 c1 q1 rfl
              clear h1
              have HB1 : Hid (Below B w w1) := (((But.refl w b).drewN _).trans hB1).below H.out.blo H.out.lo
              clear hB1
              go_wp2
              go_ret
              refine ⟨HB1.out, ?_, ?_⟩
              · intro s' e; rw [Hz.out] at e; cases e
              · intro c' p' e; rw [Hz.out] at e; cases e; exact ⟨rfl, hR1.bd⟩
            | ok u p1 =>
              have Hz : Hid (R = .go (addF (nd0 2) { s with pos := p1 })) := by show _ = _; rw [← HE.out]; unfold valueF; simp only; rw [Hd.out]; show litS t [102, 97, 108, 115, 101] 2 s = _; unfold litS; rw [hq]
              rw [hq] at C
              have HC : Hid (∀ n, Calls Tryz.prog 48 #[.pointer (some ⟨b, 0, none⟩), .string { data := #[102, 97, 108, 115, 101] }] (w.drewN n) fun e w' => But (w.drewN n) w' b ∧ (∀ u p', Lx.ok u p1 = .ok u p' → e = .returned (.bool true) ∧ RB w' b t p' ⟨.int .i64 (s.aw : Int), nv, ov, .string ⟨s.key.toArray⟩, .map (some mb)⟩ c q) ∧ (∀ c' p', Lx.ok u p1 = .bad c' p' → e = .returned (.bool false) ∧ ∃ p2, RB w' b t p2 ⟨.int .i64 (s.aw : Int), nv, ov, .string ⟨s.key.toArray⟩, .map (some mb)⟩ c' p')) := C
              clear hq HE C
              go_enter Tryz.func39, Tryz.ntmps39
              go_wp2
              go_quiet (fail)
              go_wp2_with fail
              refine (HC.out _).mono ?_
              rintro e w1 ⟨hB1, h1, _⟩
              obtain ⟨rfl, hR1⟩ := h1 u p1 rfl
              clear h1
              have HS1 : Hid (RS B w1 b t { s with pos := p1 } nv ov mb c q) := H.out.but (((But.refl w b).drewN _).trans hB1) hR1 rfl rfl rfl
              have HB1 : Hid (Below B w w1) := (((But.refl w b).drewN _).trans hB1).below H.out.blo H.out.lo
              clear hB1 hR1 HC
              have C2 := HADD.out w1 { s with pos := p1 } (nd0 2) rfl rfl HS1.out
              have HB2 : Hid (Below B w w1) := HB1.out
              go_wp2_with fail
              refine C2.mono ?_
              rintro e w3 ⟨rfl, hB3, nv', hR3⟩
              go_wp2
              go_ret
              refine ⟨HB2.out.trans hB3, ?_, ?_⟩
              · intro s' e; rw [Hz.out] at e; cases e; exact ⟨rfl, _, _, hR3⟩
              · intro c' p' e; rw [Hz.out] at e; cases e
          · have n102 : ((d.toNat : Int) == 102) = false := u8_lit (n := 102) (by omega) h102
            by_cases h116 : d = 116
            · subst h116
              have C := fun n => literal_any (w.drewN n) b t [116, 114, 117, 101] s.pos _ c q (HD.out n).rb (by omega) (by omega) (by simp)
              cases hq : litF t [116, 114, 117, 101] s.pos with
              | bad c1 q1 =>
                have Hz : Hid (R = .bad c1 q1) := by show _ = _; rw [← HE.out]; unfold valueF; simp only; rw [Hd.out]; show litS t [116, 114, 117, 101] 3 s = _; unfold litS; rw [hq]
                rw [hq] at C
                have HC : Hid (∀ n, Calls Tryz.prog 48 #[.pointer (some ⟨b, 0, none⟩), .string { data := #[116, 114, 117, 101] }] (w.drewN n) fun e w' => But (w.drewN n) w' b ∧ (∀ u p', Lx.bad c1 q1 = .ok u p' → e = .returned (.bool true) ∧ RB w' b t p' ⟨.int .i64 (s.aw : Int), nv, ov, .string ⟨s.key.toArray⟩, .map (some mb)⟩ c q) ∧ (∀ c' p', Lx.bad c1 q1 = .bad c' p' → e = .returned (.bool false) ∧ ∃ p2, RB w' b t p2 ⟨.int .i64 (s.aw : Int), nv, ov, .string ⟨s.key.toArray⟩, .map (some mb)⟩ c' p')) := C
                clear hq HE C
                go_enter Tryz.func39, Tryz.ntmps39
                go_wp2
                go_quiet (fail)
                go_wp2_with fail
                refine (HC.out _).mono ?_
                rintro e w1 ⟨hB1, _, h1⟩
                obtain ⟨rfl, p2, hR1⟩ := h1 c1 q1 rfl
                clear h1
                have HB1 : Hid (Below B w w1) := (((But.refl w b).drewN _).trans hB1).below H.out.blo H.out.lo
                clear hB1
                go_wp2
                go_ret
                refine ⟨HB1.out, ?_, ?_⟩
                · intro s' e; rw [Hz.out] at e; cases e
                · intro c' p' e; rw [Hz.out] at e; cases e; exact ⟨rfl, hR1.bd⟩
              | ok u p1 =>
                have Hz : Hid (R = .go (addF (nd0 3) { s with pos := p1 })) := by show _ = _; rw [← HE.out]; unfold valueF; simp only; rw [Hd.out]; show litS t [116, 114, 117, 101] 3 s = _; unfold litS; rw [hq]
                rw [hq] at C
                have HC : Hid (∀ n, Calls Tryz.prog 48 #[.pointer (some ⟨b, 0, none⟩), .string { data := #[116, 114, 117, 101] }] (w.drewN n) fun e w' => But (w.drewN n) w' b ∧ (∀ u p', Lx.ok u p1 = .ok u p' → e = .returned (.bool true) ∧ RB w' b t p' ⟨.int .i64 (s.aw : Int), nv, ov, .string ⟨s.key.toArray⟩, .map (some mb)⟩ c q) ∧ (∀ c' p', Lx.ok u p1 = .bad c' p' → e = .returned (.bool false) ∧ ∃ p2, RB w' b t p2 ⟨.int .i64 (s.aw : Int), nv, ov, .string ⟨s.key.toArray⟩, .map (some mb)⟩ c' p')) := C
                clear hq HE C
                go_enter Tryz.func39, Tryz.ntmps39
                go_wp2
                go_quiet (fail)
                go_wp2_with fail
                refine (HC.out _).mono ?_
                rintro e w1 ⟨hB1, h1, _⟩
                obtain ⟨rfl, hR1⟩ := h1 u p1 rfl
                clear h1
                have HS1 : Hid (RS B w1 b t { s with pos := p1 } nv ov mb c q) := H.out.but (((But.refl w b).drewN _).trans hB1) hR1 rfl rfl rfl
                have HB1 : Hid (Below B w w1) := (((But.refl w b).drewN _).trans hB1).below H.out.blo H.out.lo
                clear hB1 hR1 HC
                have C2 := HADD.out w1 { s with pos := p1 } (nd0 3) rfl rfl HS1.out
                have HB2 : Hid (Below B w w1) := HB1.out
                go_wp2_with fail
                refine C2.mono ?_
                rintro e w3 ⟨rfl, hB3, nv', hR3⟩
                go_wp2
                go_ret
                refine ⟨HB2.out.trans hB3, ?_, ?_⟩
                · intro s' e; rw [Hz.out] at e; cases e; exact ⟨rfl, _, _, hR3⟩
                · intro c' p' e; rw [Hz.out] at e; cases e
            · have n116 : ((d.toNat : Int) == 116) = false := u8_lit (n := 116) (by omega) h116
              have C := fun n => number_any (w.drewN n) b t s.pos _ c q (HD.out n).rb (by omega) (by omega)
              cases hq : numL t s.pos with
              | bad c1 q1 =>
                have Hz : Hid (R = .bad c1 q1) := by show _ = _; rw [← HE.out]; unfold valueF; simp only; rw [Hd.out, if_neg h123, if_neg h91, if_neg h34, if_neg h110, if_neg h102, if_neg h116, hq]
                rw [hq] at C
                have HC : Hid (∀ n, Calls Tryz.prog 49 #[.pointer (some ⟨b, 0, none⟩)] (w.drewN n) fun e w' => But (w.drewN n) w' b ∧ (∀ u p', Lx.bad c1 q1 = .ok u p' → e = .returned (.tuple #[.string ⟨(sgl t s.pos p').toArray⟩, .bool true]) ∧ RB w' b t p' ⟨.int .i64 (s.aw : Int), nv, ov, .string ⟨s.key.toArray⟩, .map (some mb)⟩ c q) ∧ (∀ c' p', Lx.bad c1 q1 = .bad c' p' → e = .returned (.tuple #[.string ⟨#[]⟩, .bool false]) ∧ ∃ p2, RB w' b t p2 ⟨.int .i64 (s.aw : Int), nv, ov, .string ⟨s.key.toArray⟩, .map (some mb)⟩ c' p')) := C
                clear hq HE C
                go_enter Tryz.func39, Tryz.ntmps39
                go_wp2
                go_quiet (fail)
                go_wp2_with fail
                refine (HC.out _).mono ?_
                rintro e w1 ⟨hB1, _, h1⟩
                obtain ⟨rfl, p2, hR1⟩ := h1 c1 q1 rfl
                clear h1
                have HB1 : Hid (Below B w w1) := (((But.refl w b).drewN _).trans hB1).below H.out.blo H.out.lo
                clear hB1
                go_wp2
                go_ret
                refine ⟨HB1.out, ?_, ?_⟩
                · intro s' e; rw [Hz.out] at e; cases e
                · intro c' p' e; rw [Hz.out] at e; cases e; exact ⟨rfl, hR1.bd⟩
              | ok u p1 =>
                have Hz : Hid (R = .go (addF (numN (sgl t s.pos p1)) { s with pos := p1 })) := by show _ = _; rw [← HE.out]; unfold valueF; simp only; rw [Hd.out, if_neg h123, if_neg h91, if_neg h34, if_neg h110, if_neg h102, if_neg h116, hq]
                rw [hq] at C
                have HC : Hid (∀ n, Calls Tryz.prog 49 #[.pointer (some ⟨b, 0, none⟩)] (w.drewN n) fun e w' => But (w.drewN n) w' b ∧ (∀ u p', Lx.ok u p1 = .ok u p' → e = .returned (.tuple #[.string ⟨(sgl t s.pos p').toArray⟩, .bool true]) ∧ RB w' b t p' ⟨.int .i64 (s.aw : Int), nv, ov, .string ⟨s.key.toArray⟩, .map (some mb)⟩ c q) ∧ (∀ c' p', Lx.ok u p1 = .bad c' p' → e = .returned (.tuple #[.string ⟨#[]⟩, .bool false]) ∧ ∃ p2, RB w' b t p2 ⟨.int .i64 (s.aw : Int), nv, ov, .string ⟨s.key.toArray⟩, .map (some mb)⟩ c' p')) := C
                have hpl := numL_ok hq
                clear hq HE C
                go_enter Tryz.func39, Tryz.ntmps39
                go_wp2
                go_quiet (fail)
                go_wp2_with fail
                refine (HC.out _).mono ?_
                rintro e w1 ⟨hB1, h1, _⟩
                obtain ⟨rfl, hR1⟩ := h1 u p1 rfl
                clear h1
                have HS1 : Hid (RS B w1 b t { s with pos := p1 } nv ov mb c q) := H.out.but (((But.refl w b).drewN _).trans hB1) hR1 rfl rfl rfl
                have HB1 : Hid (Below B w w1) := (((But.refl w b).drewN _).trans hB1).below H.out.blo H.out.lo
                clear hB1 hR1 HC
                have CN := numberNode_any (B := B) (sgl t s.pos p1) w1 (by have := sgl_le t s.pos p1; omega) (HG.out.below HB1.out) HS1.out.blo
                obtain ⟨NN, hNN⟩ : ∃ NN, NN = numN (sgl t s.pos p1) := ⟨_, rfl⟩
                rw [← hNN] at CN Hz
                clear hNN
                go_wp2_with fail
                refine CN.mono ?_
                rintro e w2 ⟨rfl, hB2⟩
                have C2 := HADD.out w2 { s with pos := p1 } NN rfl rfl (HS1.out.below hB2)
                have HB2 : Hid (Below B w w2) := HB1.out.trans (hB2.mono HS1.out.blo)
                clear hB2
                go_wp2_with fail
                refine C2.mono ?_
                rintro e w3 ⟨rfl, hB3, nv', hR3⟩
                go_wp2
                go_ret
                refine ⟨HB2.out.trans hB3, ?_, ?_⟩
                · intro s' e; rw [Hz.out] at e; cases e; exact ⟨rfl, _, _, hR3⟩
                · intro c' p' e; rw [Hz.out] at e; cases e

end Go.Proofs.YtjehkpndchadbaaGreatDoor

namespace Go.Proofs.YtjehkpndchadbaaGreatDoor
open Go.RowKit Go.Shelf

set_option maxRecDepth 100000 in
set_option maxHeartbeats 8000000 in
theorem word_any {B : Nat} {w : World} {b : Nat} {t : List UInt8} {s : JS} {nv ov : Value} {mb : Nat} {c q : Int} (h : RS B w b t s nv ov mb c q) (hG : GL B w) (hok : OKs s) (hp : s.pos < t.length) (ht : t.length ≤ 1000000) :
    Calls Tryz.prog 33 #[.pointer (some ⟨b, 0, none⟩)] w fun e w' => Below B w w' ∧
      (∀ s', wordF t s = .go s' → e = .returned (.bool true) ∧ ∃ nv' ov', RS B w' b t s' nv' ov' mb c q) ∧
      (∀ c' p', wordF t s = .bad c' p' → e = .returned (.bool false) ∧ Bd w' b c' p') := by
  obtain ⟨R, hR⟩ : ∃ R, wordF t s = R := ⟨_, rfl⟩
  rw [hR]
  have HE : Hid (wordF t s = R) := hR
  have c2 := h.rb.c2
  simp only at c2
  have H : Hid (RS B w b t s nv ov mb c q) := h
  have HG : Hid (GL B w) := hG
  have HOK : Hid (OKs s) := hok
  have hcnt := hok.cnt
  have HNE : Hid (s.aw ≠ 1 → s.aw ≠ 7 → s.opn ≠ []) := hok.ne
  have HT : Hid (∀ sg : UInt8, Calls Tryz.prog 31 #[.pointer (some ⟨b, 0, none⟩), .string { data := #[sg] }] w fun e w' => e = .returned (.bool (tk t [sg] s.pos)) ∧ But w w' b ∧ RB w' b t (stp (tk t [sg] s.pos) s.pos) ⟨.int .i64 (s.aw : Int), nv, ov, .string ⟨s.key.toArray⟩, .map (some mb)⟩ c q) := fun sg => take_any w b t [sg] s.pos _ c q h.rb (by omega) (by omega)
  have HCL : Hid (s.opn ≠ [] → ∀ wq, RS B wq b t { s with pos := s.pos + 1 } nv ov mb c q → Calls Tryz.prog 38 #[.pointer (some ⟨b, 0, none⟩)] wq fun e w' => e = .returned (.bool true) ∧ Below B wq w' ∧ ∃ ov', RS B w' b t (clsF s) nv ov' mb c q) := fun hne wq hq => close_any hq hne hok.op hok.len (show s.nodes.length ≤ _ by omega)
  have HV : Hid (∀ wq, RS B wq b t s nv ov mb c q → GL B wq → Calls Tryz.prog 39 #[.pointer (some ⟨b, 0, none⟩)] wq fun e w' => Below B wq w' ∧
      (∀ s', valueF t s = .go s' → e = .returned (.bool true) ∧ ∃ nv' ov', RS B w' b t s' nv' ov' mb c q) ∧
      (∀ c' p', valueF t s = .bad c' p' → e = .returned (.bool false) ∧ Bd w' b c' p')) := fun wq hq hg => value_any hq hg hok hp ht
  have HN : Hid (s.opn ≠ [] → ∀ wq, RS B wq b t s nv ov mb c q → GL B wq → Calls Tryz.prog 40 #[.pointer (some ⟨b, 0, none⟩)] wq fun e w' => Below B wq w' ∧
      (∀ s', nameF t s = .go s' → e = .returned (.bool true) ∧ ∃ nv' ov', RS B w' b t s' nv' ov' mb c q) ∧
      (∀ c' p', nameF t s = .bad c' p' → e = .returned (.bool false) ∧ Bd w' b c' p')) := fun hne wq hq hg => (name_any hq hg hok hne hp (by omega)).mono fun e w' hx => ⟨hx.1, fun s' e1 => ⟨(hx.2.1 s' e1).1, _, _, (hx.2.1 s' e1).2⟩, hx.2.2⟩
  have HM : Hid (∀ (sg : UInt8) (a : Nat) wq, RS B wq b t s nv ov mb c q → Calls Tryz.prog 41 #[.pointer (some ⟨b, 0, none⟩), .string { data := #[sg] }, .int .i64 (a : Int)] wq fun e w' => Below B wq w' ∧
      (∀ s', markF t sg a s = .go s' → e = .returned (.bool true) ∧ ∃ nv' ov', RS B w' b t s' nv' ov' mb c q) ∧
      (∀ c' p', markF t sg a s = .bad c' p' → e = .returned (.bool false) ∧ Bd w' b c' p')) := fun sg a wq hq => (mark_any sg a hq (by omega) (by omega)).mono fun e w' hx => ⟨hx.1, fun s' e1 => ⟨(hx.2.1 s' e1).1, _, _, (hx.2.1 s' e1).2⟩, fun c' p' e1 => ⟨(hx.2.2 c' p' e1).1, (hx.2.2 c' p' e1).2.elim fun s2 h2 => h2.rb.bd⟩⟩
  clear hR h hG hok
  by_cases haw : s.aw = 0
  · skip
    have hne : s.opn ≠ [] := HNE.out (by omega) (by omega)
    cases htk : tk t [93] s.pos
    · have HZ : valueF t s = R := by rw [← HE.out]; unfold wordF; simp only [haw]; rw [htk]; rfl
      have C := HT.out 93
      rw [htk] at C
      have HZ' : Hid _ := HZ
      have HNE2 : Hid (s.opn ≠ []) := hne
      have HZ := HZ'
      rw [haw] at c2
      clear htk HE hne HZ'
      clear haw
      go_enter Tryz.func33, Tryz.ntmps33
      go_wp2_with fail
      refine C.mono ?_
      clear C
      rintro e w1 ⟨rfl, hB1, hR1⟩
      have HS1 : Hid (RS B w1 b t s nv ov mb c q) := H.out.but hB1 hR1 rfl rfl rfl
      have HB1 : Hid (Below B w w1) := H.out.bel hB1
      clear hB1 hR1
      have C9 := HV.out w1 HS1.out (HG.out.below HB1.out)
      have Hz : Hid (valueF t s = R) := HZ
      rw [Hz.out] at C9
      go_wp2_with fail
      refine C9.mono ?_
      clear C9
      rintro e w9 ⟨hB9, h1, h2⟩
      have HP1 : Hid (∀ s', R = .go s' → e = .returned (.bool true) ∧ ∃ nv' ov', RS B w9 b t s' nv' ov' mb c q) := h1
      have HP2 : Hid (∀ c' p', R = .bad c' p' → e = .returned (.bool false) ∧ Bd w9 b c' p') := h2
      have HB9 : Hid (Below B w w9) := HB1.out.trans (hB9)
      clear h1 h2 hB9
      cases hRR : R with
      | go s' =>
        obtain ⟨rfl, hx⟩ := HP1.out s' hRR
        have HX : Hid (∃ nv' ov', RS B w9 b t s' nv' ov' mb c q) := hx
        have HRR : Hid (R = .go s') := hRR
        clear HP1 HP2 hRR hx
        go_wp2
        go_ret
        refine ⟨HB9.out, ?_, ?_⟩
        · intro s' e; rw [HRR.out] at e; cases e; exact ⟨rfl, HX.out⟩
        · intro c' p' e; rw [HRR.out] at e; cases e
      | bad c' p' =>
        obtain ⟨rfl, hx⟩ := HP2.out c' p' hRR
        have HX : Hid (Bd w9 b c' p') := hx
        have HRR : Hid (R = .bad c' p') := hRR
        clear HP1 HP2 hRR hx
        go_wp2
        go_ret
        refine ⟨HB9.out, ?_, ?_⟩
        · intro s' e; rw [HRR.out] at e; cases e
        · intro c' p' e; rw [HRR.out] at e; cases e; exact ⟨rfl, HX.out⟩
    · have HZ : Hid (R = .go (clsF s)) := by show _ = _; rw [← HE.out]; unfold wordF; simp only [haw]; rw [htk]; rfl
      have C := HT.out 93
      rw [htk] at C
      have HNE2 : Hid (s.opn ≠ []) := hne
      rw [haw] at c2
      clear htk HE hne haw
      go_enter Tryz.func33, Tryz.ntmps33
      go_wp2_with fail
      refine C.mono ?_
      clear C
      rintro e w1 ⟨rfl, hB1, hR1⟩
      have HS1 : Hid (RS B w1 b t { s with pos := s.pos + 1 } nv ov mb c q) := H.out.but hB1 hR1 rfl rfl rfl
      have HB1 : Hid (Below B w w1) := H.out.bel hB1
      clear hB1 hR1
      have C2 := HCL.out HNE2.out w1 HS1.out
      go_wp2_with fail
      refine C2.mono ?_
      rintro e w2 ⟨rfl, hB2, ov', hR2⟩
      go_wp2
      go_ret
      refine ⟨HB1.out.trans hB2, ?_, ?_⟩
      · intro s' e; rw [HZ.out] at e; cases e; exact ⟨rfl, _, _, hR2⟩
      · intro c' p' e; rw [HZ.out] at e; cases e
  · have n0 : ((s.aw : Int) == 0) = false := by simp; omega
    have m0 := haw
    clear haw
    by_cases haw : s.aw = 1
    · skip
      have HZ : valueF t s = R := by rw [← HE.out]; unfold wordF; simp only [haw]; rfl
      have HZ' : Hid _ := HZ
      have HZ := HZ'
      rw [haw] at c2
      clear HE HZ' haw
      go_enter Tryz.func33, Tryz.ntmps33
      have C9 := HV.out w H.out HG.out
      have Hz : Hid (valueF t s = R) := HZ
      rw [Hz.out] at C9
      go_wp2_with fail
      refine C9.mono ?_
      clear C9
      rintro e w9 ⟨hB9, h1, h2⟩
      have HP1 : Hid (∀ s', R = .go s' → e = .returned (.bool true) ∧ ∃ nv' ov', RS B w9 b t s' nv' ov' mb c q) := h1
      have HP2 : Hid (∀ c' p', R = .bad c' p' → e = .returned (.bool false) ∧ Bd w9 b c' p') := h2
      have HB9 : Hid (Below B w w9) := hB9
      clear h1 h2 hB9
      cases hRR : R with
      | go s' =>
        obtain ⟨rfl, hx⟩ := HP1.out s' hRR
        have HX : Hid (∃ nv' ov', RS B w9 b t s' nv' ov' mb c q) := hx
        have HRR : Hid (R = .go s') := hRR
        clear HP1 HP2 hRR hx
        go_wp2
        go_ret
        refine ⟨HB9.out, ?_, ?_⟩
        · intro s' e; rw [HRR.out] at e; cases e; exact ⟨rfl, HX.out⟩
        · intro c' p' e; rw [HRR.out] at e; cases e
      | bad c' p' =>
        obtain ⟨rfl, hx⟩ := HP2.out c' p' hRR
        have HX : Hid (Bd w9 b c' p') := hx
        have HRR : Hid (R = .bad c' p') := hRR
        clear HP1 HP2 hRR hx
        go_wp2
        go_ret
        refine ⟨HB9.out, ?_, ?_⟩
        · intro s' e; rw [HRR.out] at e; cases e
        · intro c' p' e; rw [HRR.out] at e; cases e; exact ⟨rfl, HX.out⟩
    · have n1 : ((s.aw : Int) == 1) = false := by simp; omega
      have m1 := haw
      clear haw
      by_cases haw : s.aw = 2
      · skip
        have hne : s.opn ≠ [] := HNE.out (by omega) (by omega)
        cases htk : tk t [125] s.pos
        · have HZ : nameF t s = R := by rw [← HE.out]; unfold wordF; simp only [haw]; rw [htk]; rfl
          have C := HT.out 125
          rw [htk] at C
          have HZ' : Hid _ := HZ
          have HNE2 : Hid (s.opn ≠ []) := hne
          have HZ := HZ'
          rw [haw] at c2
          clear htk HE hne HZ'
          clear haw
          go_enter Tryz.func33, Tryz.ntmps33
          go_wp2_with fail
          refine C.mono ?_
          clear C
          rintro e w1 ⟨rfl, hB1, hR1⟩
          have HS1 : Hid (RS B w1 b t s nv ov mb c q) := H.out.but hB1 hR1 rfl rfl rfl
          have HB1 : Hid (Below B w w1) := H.out.bel hB1
          clear hB1 hR1
          have C9 := HN.out HNE2.out w1 HS1.out (HG.out.below HB1.out)
          have Hz : Hid (nameF t s = R) := HZ
          rw [Hz.out] at C9
          go_wp2_with fail
          refine C9.mono ?_
          clear C9
          rintro e w9 ⟨hB9, h1, h2⟩
          have HP1 : Hid (∀ s', R = .go s' → e = .returned (.bool true) ∧ ∃ nv' ov', RS B w9 b t s' nv' ov' mb c q) := h1
          have HP2 : Hid (∀ c' p', R = .bad c' p' → e = .returned (.bool false) ∧ Bd w9 b c' p') := h2
          have HB9 : Hid (Below B w w9) := HB1.out.trans (hB9)
          clear h1 h2 hB9
          cases hRR : R with
          | go s' =>
            obtain ⟨rfl, hx⟩ := HP1.out s' hRR
            have HX : Hid (∃ nv' ov', RS B w9 b t s' nv' ov' mb c q) := hx
            have HRR : Hid (R = .go s') := hRR
            clear HP1 HP2 hRR hx
            go_wp2
            go_ret
            refine ⟨HB9.out, ?_, ?_⟩
            · intro s' e; rw [HRR.out] at e; cases e; exact ⟨rfl, HX.out⟩
            · intro c' p' e; rw [HRR.out] at e; cases e
          | bad c' p' =>
            obtain ⟨rfl, hx⟩ := HP2.out c' p' hRR
            have HX : Hid (Bd w9 b c' p') := hx
            have HRR : Hid (R = .bad c' p') := hRR
            clear HP1 HP2 hRR hx
            go_wp2
            go_ret
            refine ⟨HB9.out, ?_, ?_⟩
            · intro s' e; rw [HRR.out] at e; cases e
            · intro c' p' e; rw [HRR.out] at e; cases e; exact ⟨rfl, HX.out⟩
        · have HZ : Hid (R = .go (clsF s)) := by show _ = _; rw [← HE.out]; unfold wordF; simp only [haw]; rw [htk]; rfl
          have C := HT.out 125
          rw [htk] at C
          have HNE2 : Hid (s.opn ≠ []) := hne
          rw [haw] at c2
          clear htk HE hne haw
          go_enter Tryz.func33, Tryz.ntmps33
          go_wp2_with fail
          refine C.mono ?_
          clear C
          rintro e w1 ⟨rfl, hB1, hR1⟩
          have HS1 : Hid (RS B w1 b t { s with pos := s.pos + 1 } nv ov mb c q) := H.out.but hB1 hR1 rfl rfl rfl
          have HB1 : Hid (Below B w w1) := H.out.bel hB1
          clear hB1 hR1
          have C2 := HCL.out HNE2.out w1 HS1.out
          go_wp2_with fail
          refine C2.mono ?_
          rintro e w2 ⟨rfl, hB2, ov', hR2⟩
          go_wp2
          go_ret
          refine ⟨HB1.out.trans hB2, ?_, ?_⟩
          · intro s' e; rw [HZ.out] at e; cases e; exact ⟨rfl, _, _, hR2⟩
          · intro c' p' e; rw [HZ.out] at e; cases e
      · have n2 : ((s.aw : Int) == 2) = false := by simp; omega
        have m2 := haw
        clear haw
        by_cases haw : s.aw = 3
        · skip
          have hne : s.opn ≠ [] := HNE.out (by omega) (by omega)
          have HZ : nameF t s = R := by rw [← HE.out]; unfold wordF; simp only [haw]; rfl
          have HZ' : Hid _ := HZ
          have HNE2 : Hid (s.opn ≠ []) := hne
          have HZ := HZ'
          rw [haw] at c2
          clear HE HZ' haw hne
          go_enter Tryz.func33, Tryz.ntmps33
          have C9 := HN.out HNE2.out w H.out HG.out
          have Hz : Hid (nameF t s = R) := HZ
          rw [Hz.out] at C9
          go_wp2_with fail
          refine C9.mono ?_
          clear C9
          rintro e w9 ⟨hB9, h1, h2⟩
          have HP1 : Hid (∀ s', R = .go s' → e = .returned (.bool true) ∧ ∃ nv' ov', RS B w9 b t s' nv' ov' mb c q) := h1
          have HP2 : Hid (∀ c' p', R = .bad c' p' → e = .returned (.bool false) ∧ Bd w9 b c' p') := h2
          have HB9 : Hid (Below B w w9) := hB9
          clear h1 h2 hB9
          cases hRR : R with
          | go s' =>
            obtain ⟨rfl, hx⟩ := HP1.out s' hRR
            have HX : Hid (∃ nv' ov', RS B w9 b t s' nv' ov' mb c q) := hx
            have HRR : Hid (R = .go s') := hRR
            clear HP1 HP2 hRR hx
            go_wp2
            go_ret
            refine ⟨HB9.out, ?_, ?_⟩
            · intro s' e; rw [HRR.out] at e; cases e; exact ⟨rfl, HX.out⟩
            · intro c' p' e; rw [HRR.out] at e; cases e
          | bad c' p' =>
            obtain ⟨rfl, hx⟩ := HP2.out c' p' hRR
            have HX : Hid (Bd w9 b c' p') := hx
            have HRR : Hid (R = .bad c' p') := hRR
            clear HP1 HP2 hRR hx
            go_wp2
            go_ret
            refine ⟨HB9.out, ?_, ?_⟩
            · intro s' e; rw [HRR.out] at e; cases e
            · intro c' p' e; rw [HRR.out] at e; cases e; exact ⟨rfl, HX.out⟩
        · have n3 : ((s.aw : Int) == 3) = false := by simp; omega
          have m3 := haw
          clear haw
          by_cases haw : s.aw = 4
          · skip
            have HZ : markF t 58 1 s = R := by rw [← HE.out]; unfold wordF; simp only [haw]; rfl
            have HZ' : Hid _ := HZ
            have HZ := HZ'
            rw [haw] at c2
            clear HE HZ' haw
            go_enter Tryz.func33, Tryz.ntmps33
            have C9 := HM.out 58 1 w H.out
            have Hz : Hid (markF t 58 1 s = R) := HZ
            rw [Hz.out] at C9
            go_wp2_with fail
            refine C9.mono ?_
            clear C9
            rintro e w9 ⟨hB9, h1, h2⟩
            have HP1 : Hid (∀ s', R = .go s' → e = .returned (.bool true) ∧ ∃ nv' ov', RS B w9 b t s' nv' ov' mb c q) := h1
            have HP2 : Hid (∀ c' p', R = .bad c' p' → e = .returned (.bool false) ∧ Bd w9 b c' p') := h2
            have HB9 : Hid (Below B w w9) := hB9
            clear h1 h2 hB9
            cases hRR : R with
            | go s' =>
              obtain ⟨rfl, hx⟩ := HP1.out s' hRR
              have HX : Hid (∃ nv' ov', RS B w9 b t s' nv' ov' mb c q) := hx
              have HRR : Hid (R = .go s') := hRR
              clear HP1 HP2 hRR hx
              go_wp2
              go_ret
              refine ⟨HB9.out, ?_, ?_⟩
              · intro s' e; rw [HRR.out] at e; cases e; exact ⟨rfl, HX.out⟩
              · intro c' p' e; rw [HRR.out] at e; cases e
            | bad c' p' =>
              obtain ⟨rfl, hx⟩ := HP2.out c' p' hRR
              have HX : Hid (Bd w9 b c' p') := hx
              have HRR : Hid (R = .bad c' p') := hRR
              clear HP1 HP2 hRR hx
              go_wp2
              go_ret
              refine ⟨HB9.out, ?_, ?_⟩
              · intro s' e; rw [HRR.out] at e; cases e
              · intro c' p' e; rw [HRR.out] at e; cases e; exact ⟨rfl, HX.out⟩
          · have n4 : ((s.aw : Int) == 4) = false := by simp; omega
            have m4 := haw
            clear haw
            by_cases haw : s.aw = 5
            · skip
              have hne : s.opn ≠ [] := HNE.out (by omega) (by omega)
              cases htk : tk t [93] s.pos
              · have HZ : markF t 44 1 s = R := by rw [← HE.out]; unfold wordF; simp only [haw]; rw [htk]; rfl
                have C := HT.out 93
                rw [htk] at C
                have HZ' : Hid _ := HZ
                have HNE2 : Hid (s.opn ≠ []) := hne
                have HZ := HZ'
                rw [haw] at c2
                clear htk HE hne HZ'
                clear haw
                go_enter Tryz.func33, Tryz.ntmps33
                go_wp2_with fail
                refine C.mono ?_
                clear C
                rintro e w1 ⟨rfl, hB1, hR1⟩
                have HS1 : Hid (RS B w1 b t s nv ov mb c q) := H.out.but hB1 hR1 rfl rfl rfl
                have HB1 : Hid (Below B w w1) := H.out.bel hB1
                clear hB1 hR1
                have C9 := HM.out 44 1 w1 HS1.out
                have Hz : Hid (markF t 44 1 s = R) := HZ
                rw [Hz.out] at C9
                go_wp2_with fail
                refine C9.mono ?_
                clear C9
                rintro e w9 ⟨hB9, h1, h2⟩
                have HP1 : Hid (∀ s', R = .go s' → e = .returned (.bool true) ∧ ∃ nv' ov', RS B w9 b t s' nv' ov' mb c q) := h1
                have HP2 : Hid (∀ c' p', R = .bad c' p' → e = .returned (.bool false) ∧ Bd w9 b c' p') := h2
                have HB9 : Hid (Below B w w9) := HB1.out.trans (hB9)
                clear h1 h2 hB9
                cases hRR : R with
                | go s' =>
                  obtain ⟨rfl, hx⟩ := HP1.out s' hRR
                  have HX : Hid (∃ nv' ov', RS B w9 b t s' nv' ov' mb c q) := hx
                  have HRR : Hid (R = .go s') := hRR
                  clear HP1 HP2 hRR hx
                  go_wp2
                  go_ret
                  refine ⟨HB9.out, ?_, ?_⟩
                  · intro s' e; rw [HRR.out] at e; cases e; exact ⟨rfl, HX.out⟩
                  · intro c' p' e; rw [HRR.out] at e; cases e
                | bad c' p' =>
                  obtain ⟨rfl, hx⟩ := HP2.out c' p' hRR
                  have HX : Hid (Bd w9 b c' p') := hx
                  have HRR : Hid (R = .bad c' p') := hRR
                  clear HP1 HP2 hRR hx
                  go_wp2
                  go_ret
                  refine ⟨HB9.out, ?_, ?_⟩
                  · intro s' e; rw [HRR.out] at e; cases e
                  · intro c' p' e; rw [HRR.out] at e; cases e; exact ⟨rfl, HX.out⟩
              · have HZ : Hid (R = .go (clsF s)) := by show _ = _; rw [← HE.out]; unfold wordF; simp only [haw]; rw [htk]; rfl
                have C := HT.out 93
                rw [htk] at C
                have HNE2 : Hid (s.opn ≠ []) := hne
                rw [haw] at c2
                clear htk HE hne haw
                go_enter Tryz.func33, Tryz.ntmps33
                go_wp2_with fail
                refine C.mono ?_
                clear C
                rintro e w1 ⟨rfl, hB1, hR1⟩
                have HS1 : Hid (RS B w1 b t { s with pos := s.pos + 1 } nv ov mb c q) := H.out.but hB1 hR1 rfl rfl rfl
                have HB1 : Hid (Below B w w1) := H.out.bel hB1
                clear hB1 hR1
                have C2 := HCL.out HNE2.out w1 HS1.out
                go_wp2_with fail
                refine C2.mono ?_
                rintro e w2 ⟨rfl, hB2, ov', hR2⟩
                go_wp2
                go_ret
                refine ⟨HB1.out.trans hB2, ?_, ?_⟩
                · intro s' e; rw [HZ.out] at e; cases e; exact ⟨rfl, _, _, hR2⟩
                · intro c' p' e; rw [HZ.out] at e; cases e
            · have n5 : ((s.aw : Int) == 5) = false := by simp; omega
              have m5 := haw
              clear haw
              by_cases haw : s.aw = 6
              · skip
                have hne : s.opn ≠ [] := HNE.out (by omega) (by omega)
                cases htk : tk t [125] s.pos
                · have HZ : markF t 44 3 s = R := by rw [← HE.out]; unfold wordF; simp only [haw]; rw [htk]; rfl
                  have C := HT.out 125
                  rw [htk] at C
                  have HZ' : Hid _ := HZ
                  have HNE2 : Hid (s.opn ≠ []) := hne
                  have HZ := HZ'
                  rw [haw] at c2
                  clear htk HE hne HZ'
                  clear haw
                  go_enter Tryz.func33, Tryz.ntmps33
                  go_wp2_with fail
                  refine C.mono ?_
                  clear C
                  rintro e w1 ⟨rfl, hB1, hR1⟩
                  have HS1 : Hid (RS B w1 b t s nv ov mb c q) := H.out.but hB1 hR1 rfl rfl rfl
                  have HB1 : Hid (Below B w w1) := H.out.bel hB1
                  clear hB1 hR1
                  have C9 := HM.out 44 3 w1 HS1.out
                  have Hz : Hid (markF t 44 3 s = R) := HZ
                  rw [Hz.out] at C9
                  go_wp2_with fail
                  refine C9.mono ?_
                  clear C9
                  rintro e w9 ⟨hB9, h1, h2⟩
                  have HP1 : Hid (∀ s', R = .go s' → e = .returned (.bool true) ∧ ∃ nv' ov', RS B w9 b t s' nv' ov' mb c q) := h1
                  have HP2 : Hid (∀ c' p', R = .bad c' p' → e = .returned (.bool false) ∧ Bd w9 b c' p') := h2
                  have HB9 : Hid (Below B w w9) := HB1.out.trans (hB9)
                  clear h1 h2 hB9
                  cases hRR : R with
                  | go s' =>
                    obtain ⟨rfl, hx⟩ := HP1.out s' hRR
                    have HX : Hid (∃ nv' ov', RS B w9 b t s' nv' ov' mb c q) := hx
                    have HRR : Hid (R = .go s') := hRR
                    clear HP1 HP2 hRR hx
                    go_wp2
                    go_ret
                    refine ⟨HB9.out, ?_, ?_⟩
                    · intro s' e; rw [HRR.out] at e; cases e; exact ⟨rfl, HX.out⟩
                    · intro c' p' e; rw [HRR.out] at e; cases e
                  | bad c' p' =>
                    obtain ⟨rfl, hx⟩ := HP2.out c' p' hRR
                    have HX : Hid (Bd w9 b c' p') := hx
                    have HRR : Hid (R = .bad c' p') := hRR
                    clear HP1 HP2 hRR hx
                    go_wp2
                    go_ret
                    refine ⟨HB9.out, ?_, ?_⟩
                    · intro s' e; rw [HRR.out] at e; cases e
                    · intro c' p' e; rw [HRR.out] at e; cases e; exact ⟨rfl, HX.out⟩
                · have HZ : Hid (R = .go (clsF s)) := by show _ = _; rw [← HE.out]; unfold wordF; simp only [haw]; rw [htk]; rfl
                  have C := HT.out 125
                  rw [htk] at C
                  have HNE2 : Hid (s.opn ≠ []) := hne
                  rw [haw] at c2
                  clear htk HE hne haw
                  go_enter Tryz.func33, Tryz.ntmps33
                  go_wp2_with fail
                  refine C.mono ?_
                  clear C
                  rintro e w1 ⟨rfl, hB1, hR1⟩
                  have HS1 : Hid (RS B w1 b t { s with pos := s.pos + 1 } nv ov mb c q) := H.out.but hB1 hR1 rfl rfl rfl
                  have HB1 : Hid (Below B w w1) := H.out.bel hB1
                  clear hB1 hR1
                  have C2 := HCL.out HNE2.out w1 HS1.out
                  go_wp2_with fail
                  refine C2.mono ?_
                  rintro e w2 ⟨rfl, hB2, ov', hR2⟩
                  go_wp2
                  go_ret
                  refine ⟨HB1.out.trans hB2, ?_, ?_⟩
                  · intro s' e; rw [HZ.out] at e; cases e; exact ⟨rfl, _, _, hR2⟩
                  · intro c' p' e; rw [HZ.out] at e; cases e
              · have n6 : ((s.aw : Int) == 6) = false := by simp; omega
                have m6 := haw
                clear haw
                have HZ : Hid (R = .bad 31 s.pos) := by show _ = _; rw [← HE.out]; unfold wordF; rw [if_neg m0, if_neg m1, if_neg m2, if_neg m3, if_neg m4, if_neg m5, if_neg m6]
                have C := wrong_any w b t s.pos _ c q H.out.rb
                clear HE m0 m1 m2 m3 m4 m5 m6
                go_enter Tryz.func33, Tryz.ntmps33
                go_wp2_with fail
                refine C.mono ?_
                rintro e w1 ⟨rfl, hB1, hR1⟩
                go_wp2
                go_ret
                refine ⟨H.out.bel hB1, ?_, ?_⟩
                · intro s' e; rw [HZ.out] at e; cases e
                · intro c' p' e; rw [HZ.out] at e; cases e; exact ⟨rfl, hR1.bd⟩

end Go.Proofs.YtjehkpndchadbaaGreatDoor

namespace Go.Proofs.YtjehkpndchadbaaGreatDoor
open Go.RowKit Go.Shelf

theorem runF_end {t : List UInt8} {n : Nat} {s : JS} (h : skp t blanksS s.pos = t.length) : runF t (n + 1) s = if s.aw = 7 then .go { s with pos := t.length } else .bad 31 t.length := by
  unfold runF
  simp only
  rw [if_pos h, h]
theorem runF_word {t : List UInt8} {n : Nat} {s : JS} (h : skp t blanksS s.pos ≠ t.length) : runF t (n + 1) s = match wordF t { s with pos := skp t blanksS s.pos } with
    | .bad c q => .bad c q
    | .go s' => runF t n s' := by
  conv => lhs; unfold runF
  simp only
  rw [if_neg h]
  rfl

set_option maxRecDepth 100000 in
set_option maxHeartbeats 8000000 in
theorem read_any {B : Nat} {w : World} {b : Nat} {t : List UInt8} {s : JS} {nv ov : Value} {mb : Nat} {c q : Int} (n : Nat) (h : RS B w b t s nv ov mb c q) (hG : GL B w) (hok : OKs s) (hp : s.pos ≤ t.length) (ht : t.length ≤ 1000000) (hn : t.length < n + s.pos) :
    Calls Tryz.prog 22 #[.pointer (some ⟨b, 0, none⟩)] w fun e w' => Below B w w' ∧
      (∀ s', runF t n s = .go s' → e = .returned (.bool true) ∧ ∃ nv' ov', RS B w' b t s' nv' ov' mb c q) ∧
      (∀ c' p', runF t n s = .bad c' p' → e = .returned (.bool false) ∧ Bd w' b c' p') := by
  obtain ⟨R, hR⟩ : ∃ R, runF t n s = R := ⟨_, rfl⟩
  rw [hR]
  have HE : Hid (runF t n s = R) := hR
  have H0 : Hid (RS B w b t s nv ov mb c q) := h
  have HG0 : Hid (GL B w) := hG
  have HOK0 : Hid (OKs s) := hok
  clear hR h hG hok
  go_enter Tryz.func22, Tryz.ntmps22
  go_wp2
  go_loopg [] n (fun gk wx => ∃ s nv ov, s.pos ≤ t.length ∧ t.length < gk + s.pos ∧ Below B w wx ∧ RS B wx b t s nv ov mb c q ∧ GL B wx ∧ OKs s ∧ runF t gk s = R)
  case atStart => exact ⟨s, nv, ov, hp, hn, Below.refl _ _, H0.out, HG0.out, HOK0.out, HE.out⟩
  case round =>
    clear H0 HG0 HOK0 HE hn hp
    obtain ⟨s, nv, ov, hp, hgk, hb, hr, hg, ho, he⟩ := hrel
    obtain ⟨g', rfl⟩ : ∃ g', gk = g' + 1 := ⟨gk - 1, by omega⟩
    obtain ⟨E, hE⟩ : ∃ E, skp t blanksS s.pos = E := ⟨_, rfl⟩
    have hEl : E ≤ t.length := by rw [← hE]; exact skp_le _ _ _ hp
    have hEg : s.pos ≤ E := by rw [← hE]; exact skp_ge _ _ _
    have HEE : Hid (skp t blanksS s.pos = E) := hE
    have HR1 : Hid (runF t (g' + 1) s = R) := he
    have HO1 : Hid (OKs s) := ho
    have HB1 : Hid (Below B w wr) := hb
    have HS1 : Hid (RS B wr b t s nv ov mb c q) := hr
    have HG1 : Hid (GL B wr) := hg
    clear he ho hb hr hg hE
    go_wp2
    go_loopg [] (t.length + 1) (fun gj wx => ∃ k : Nat, k ≤ t.length ∧ s.pos ≤ k ∧ t.length + 1 ≤ gj + k ∧ skp t blanksS k = E ∧ Below B w wx ∧ RS B wx b t { s with pos := k } nv ov mb c q ∧ GL B wx)
    case atStart => exact ⟨s.pos, hp, Nat.le_refl _, by omega, HEE.out, HB1.out, HS1.out, HG1.out⟩
    case round =>
      obtain ⟨k, hk, hsk, hgj, hke, hb, hr, hg⟩ := hrel
      have HB2 : Hid (Below B w wr) := hb
      have HS2 : Hid (RS B wr b t { s with pos := k } nv ov mb c q) := hr
      have HG2 : Hid (GL B wr) := hg
      have HKE : Hid (skp t blanksS k = E) := hke
      have C : Calls Tryz.prog 31 #[.pointer (some ⟨b, 0, none⟩), .string { data := #[32, 9, 10, 13] }] wr fun e w' => e = .returned (.bool (tk t blanksS k)) ∧ But wr w' b ∧ RB w' b t (stp (tk t blanksS k) k) ⟨.int .i64 (s.aw : Int), nv, ov, .string ⟨s.key.toArray⟩, .map (some mb)⟩ c q := take_any wr b t blanksS k _ c q hr.rb hk (by omega)
      clear HB1 HS1 HG1 hb hr hg hke
      cases htk : tk t blanksS k
      · rw [htk] at C
        have hkE : E = k := by rw [← HKE.out]; exact skp_stop htk
        clear htk
        subst hkE
        go_wp2_with fail
        refine C.mono ?_
        clear C
        rintro e w1 ⟨rfl, hB1, hR1⟩
        have HS3 : Hid (RS B w1 b t { s with pos := E } nv ov mb c q) := HS2.out.but hB1 hR1 rfl rfl rfl
        have HB3 : Hid (Below B w w1) := HB2.out.trans (HS2.out.bel hB1)
        have HG3 : Hid (GL B w1) := HG2.out.below (HS2.out.bel hB1)
        have c0 := HS3.out.rb.c0
        have c1 := HS3.out.rb.c1
        have c2 := HS3.out.rb.c2
        simp only at c1 c2
        clear hB1 hR1 HB2 HS2 HG2 HKE
        by_cases hend : E = t.length
        · have hendb : ((E : Int) == (t.length : Int)) = true := by simp; omega
          have HZ : Hid ((if s.aw = 7 then Rs.go { s with pos := t.length } else Rs.bad 31 t.length) = R) := by show _ = _; rw [← HR1.out, runF_end (by rw [HEE.out]; exact hend)]
          have HEN : Hid (E = t.length) := hend
          clear hend HR1
          by_cases h7 : s.aw = 7
          · have h7b : ((s.aw : Int) == 7) = true := by simp; omega
            have HZ2 : Hid (R = .go { s with pos := t.length }) := by show _ = _; rw [← HZ.out, if_pos h7]
            clear HZ h7
            go_wp2
            go_quiet (fail)
            go_wp2
            go_ret
            refine ⟨below_drewN HB3.out _, ?_, ?_⟩
            · intro s' e; rw [HZ2.out] at e; cases e; exact ⟨rfl, _, _, by have := HS3.out.drewN (n := nq); rw [HEN.out] at this; exact this⟩
            · intro c' p' e; rw [HZ2.out] at e; cases e
          · have h7b : ((s.aw : Int) == 7) = false := by simp; omega
            have HZ2 : Hid (R = .bad 31 t.length) := by show _ = _; rw [← HZ.out, if_neg h7]
            have CW : Hid (∀ n, Calls Tryz.prog 32 #[.pointer (some ⟨b, 0, none⟩)] (w1.drewN n) fun e w' => e = .returned (.bool false) ∧ But (w1.drewN n) w' b ∧ RB w' b t E ⟨.int .i64 (s.aw : Int), nv, ov, .string ⟨s.key.toArray⟩, .map (some mb)⟩ 31 E) := fun n => wrong_any _ b t E _ c q (HS3.out.drewN n).rb
            clear HZ h7
            go_wp2
            go_quiet (fail)
            go_wp2_with fail
            refine (CW.out _).mono ?_
            rintro e w2 ⟨rfl, hB2, hR2⟩
            have HB4 : Hid (Below B w w2) := (below_drewN HB3.out _).trans (hB2.below HS3.out.blo HS3.out.lo)
            clear hB2
            go_wp2
            go_ret
            refine ⟨HB4.out, ?_, ?_⟩
            · intro s' e; rw [HZ2.out] at e; cases e
            · intro c' p' e; rw [HZ2.out] at e; cases e; exact ⟨rfl, by have := hR2.bd; rw [HEN.out] at this; exact this⟩
        · have hendb : ((E : Int) == (t.length : Int)) = false := by simp; omega
          have hElt : E < t.length := by omega
          have HZ : Hid ((match wordF t { s with pos := E } with
            | .bad c q => Rs.bad c q
            | .go s' => runF t g' s') = R) := by show _ = _; rw [← HR1.out, runF_word (by rw [HEE.out]; exact hend), HEE.out]
          have HOE : Hid (OKs { s with pos := E }) := HO1.out.at hEg
          have CWD : Hid (∀ n, Calls Tryz.prog 33 #[.pointer (some ⟨b, 0, none⟩)] (w1.drewN n) fun e w' => Below B (w1.drewN n) w' ∧
            (∀ s', wordF t { s with pos := E } = .go s' → e = .returned (.bool true) ∧ ∃ nv' ov', RS B w' b t s' nv' ov' mb c q) ∧
            (∀ c' p', wordF t { s with pos := E } = .bad c' p' → e = .returned (.bool false) ∧ Bd w' b c' p')) := fun n => word_any (HS3.out.drewN n) (HG3.out.below (below_drewN (Below.refl _ _) n)) HOE.out hElt ht
          clear hend HR1
          cases hwd : wordF t { s with pos := E } with
          | bad c1 q1 =>
            have HZ2 : Hid (R = .bad c1 q1) := by show _ = _; rw [← HZ.out, hwd]
            rw [hwd] at CWD
            clear HZ hwd
            go_wp2
            go_quiet (fail)
            go_wp2_with fail
            refine (CWD.out _).mono ?_
            rintro e w2 ⟨hB2, _, h2⟩
            obtain ⟨rfl, hbd⟩ := h2 c1 q1 rfl
            have HB4 : Hid (Below B w w2) := (below_drewN HB3.out _).trans hB2
            clear hB2 h2
            go_wp2
            go_ret
            refine ⟨HB4.out, ?_, ?_⟩
            · intro s' e; rw [HZ2.out] at e; cases e
            · intro c' p' e; rw [HZ2.out] at e; cases e; exact ⟨rfl, hbd⟩
          | go s' =>
            have HZ2 : Hid (runF t g' s' = R) := by show _ = _; rw [← HZ.out, hwd]
            have hpos := wordF_pos (s := { s with pos := E }) hElt hwd
            have hpos1 : E < s'.pos := hpos.1
            have hpos2 := hpos.2
            have HO2 : Hid (OKs s') := wordF_ok (s := { s with pos := E }) hElt HOE.out hwd
            rw [hwd] at CWD
            clear HZ hwd hpos
            go_wp2
            go_quiet (fail)
            go_wp2_with fail
            refine (CWD.out _).mono ?_
            rintro e w2 ⟨hB2, h2, _⟩
            obtain ⟨rfl, nv', ov', hR2⟩ := h2 s' rfl
            have HB4 : Hid (Below B w w2) := (below_drewN HB3.out _).trans hB2
            have HG4 : Hid (GL B w2) := (HG3.out.below (below_drewN (Below.refl _ _) _)).below hB2
            have HS4 : Hid (RS B w2 b t s' nv' ov' mb c q) := hR2
            clear hB2 h2 hR2
            go_wp2
            go_roundg g'
            case measure => omega
            case rel => exact ⟨s', nv', ov', hpos2, by omega, HB4.out, HS4.out, HG4.out, HO2.out, HZ2.out⟩
      · rw [htk] at C
        have hlt := tk_lt htk
        have HK2 : Hid (skp t blanksS (k + 1) = E) := by show _ = _; rw [← skp_step htk]; exact HKE.out
        obtain ⟨gj', rfl⟩ : ∃ gj', gk = gj' + 1 := ⟨gk - 1, by omega⟩
        clear htk
        go_wp2_with fail
        refine C.mono ?_
        clear C
        rintro e w1 ⟨rfl, hB1, hR1⟩
        have HS3 : Hid (RS B w1 b t { s with pos := k + 1 } nv ov mb c q) := HS2.out.but hB1 hR1 rfl rfl rfl
        have HB3 : Hid (Below B w w1) := HB2.out.trans (HS2.out.bel hB1)
        have HG3 : Hid (GL B w1) := HG2.out.below (HS2.out.bel hB1)
        clear hB1 hR1
        go_wp2
        go_roundg gj'
        case measure => omega
        case rel => exact ⟨k + 1, hlt, by omega, by omega, HK2.out, HB3.out, HS3.out, HG3.out⟩

end Go.Proofs.YtjehkpndchadbaaGreatDoor

namespace Go.Proofs.YtjehkpndchadbaaGreatDoor
open Go.RowKit Go.Shelf

theorem parseF_large {t : List UInt8} (h : 262144 < t.length) : parseF t = ([], 10, 0) := by unfold parseF; rw [if_pos h]
theorem parseF_bad {t : List UInt8} {c p : Nat} (h : ¬ 262144 < t.length) (e : runF t (t.length + 1) start = .bad c p) : parseF t = ([], c, p) := by unfold parseF; rw [if_neg h, e]
theorem parseF_go {t : List UInt8} {s : JS} (h : ¬ 262144 < t.length) (e : runF t (t.length + 1) start = .go s) : parseF t = (s.nodes, 0, 0) := by unfold parseF; rw [if_neg h, e]

/-- A list of nodes of one's own. -/
def NO (B : Nat) (w : World) (v : Value) (l : List Nd) : Prop := w.ownsRow B 37 6 v l.length (nCs l)

set_option maxRecDepth 100000 in
set_option maxHeartbeats 8000000 in
theorem parse_any (t : List UInt8) (w : World) (hG : GL w.heap.size w) (ht : t.length ≤ 1000000000) :
    Calls Tryz.prog 11 #[.string ⟨t.toArray⟩] w fun e w' => Below w.heap.size w w' ∧ ∃ v, e = .returned (.tuple #[v, .int .i64 ((parseF t).2.1 : Int), .int .i64 ((parseF t).2.2 : Int)]) ∧ NO w.heap.size w' v (parseF t).1 := by
  by_cases hl : 262144 < t.length
  · have HP : Hid (parseF t = ([], 10, 0)) := parseF_large hl
    have hlb : decide ((t.length : Int) > 262144) = true := decide_eq_true (by omega)
    clear hl hG
    go_enter Tryz.func11, Tryz.ntmps11
    go_wp2
    go_ret3
    rw [HP.out]
    exact ⟨Below.refl _ _, _, rfl, World.ownsRow_nil _ _ _ _⟩
  · have hlb : decide ((t.length : Int) > 262144) = false := decide_eq_false (by omega)
    have hmm := @run_makeMap Tryz.prog
    have HPb : Hid (∀ c p, runF t (t.length + 1) start = .bad c p → parseF t = ([], c, p)) := fun c p => parseF_bad hl
    have HPg : Hid (∀ s, runF t (t.length + 1) start = .go s → parseF t = (s.nodes, 0, 0)) := fun s => parseF_go hl
    have ht2 : t.length ≤ 262144 := by omega
    have hsz1 : (w.alloc (Obj.map #[] 0)).heap.size = w.heap.size + 1 := alloc_size _ _
    have hB1 : Below w.heap.size w (w.alloc (Obj.map #[] 0)) := alloc_below _ _
    have hB2 : Below w.heap.size w ((w.alloc (Obj.map #[] 0)).alloc (Obj.cells #[Value.string { data := t.toArray }, Value.int IntKind.i64 0, Value.int IntKind.i64 1, Value.slice none 0 0, Value.slice none 0 0, Value.string { data := #[] }, Value.map (some w.heap.size), Value.int IntKind.i64 0, Value.int IntKind.i64 0] 67)) := hB1.trans ((alloc_below _ _).mono (by omega))
    have hM1 : (w.alloc (Obj.map #[] 0)).heap[w.heap.size]? = some (.map #[] 0) := by unfold World.alloc; simp
    have hM2 : ((w.alloc (Obj.map #[] 0)).alloc (Obj.cells #[Value.string { data := t.toArray }, Value.int IntKind.i64 0, Value.int IntKind.i64 1, Value.slice none 0 0, Value.slice none 0 0, Value.string { data := #[] }, Value.map (some w.heap.size), Value.int IntKind.i64 0, Value.int IntKind.i64 0] 67)).heap[w.heap.size]? = some (.map #[] 0) := by rw [(alloc_below _ _).block _ (by omega)]; exact hM1
    have hRB : RB ((w.alloc (Obj.map #[] 0)).alloc (Obj.cells #[Value.string { data := t.toArray }, Value.int IntKind.i64 0, Value.int IntKind.i64 1, Value.slice none 0 0, Value.slice none 0 0, Value.string { data := #[] }, Value.map (some w.heap.size), Value.int IntKind.i64 0, Value.int IntKind.i64 0] 67)) (w.heap.size + 1) t 0 ⟨.int .i64 (1 : Nat), .slice none 0 0, .slice none 0 0, .string ⟨#[]⟩, .map (some w.heap.size)⟩ 0 0 := by
      have := alloc_bl (w.alloc (Obj.map #[] 0)) [Value.string { data := t.toArray }, Value.int IntKind.i64 0, Value.int IntKind.i64 1, Value.slice none 0 0, Value.slice none 0 0, Value.string { data := #[] }, Value.map (some w.heap.size), Value.int IntKind.i64 0, Value.int IntKind.i64 0] 67
      rw [hsz1] at this
      exact this
    have hRS : RS w.heap.size ((w.alloc (Obj.map #[] 0)).alloc (Obj.cells #[Value.string { data := t.toArray }, Value.int IntKind.i64 0, Value.int IntKind.i64 1, Value.slice none 0 0, Value.slice none 0 0, Value.string { data := #[] }, Value.map (some w.heap.size), Value.int IntKind.i64 0, Value.int IntKind.i64 0] 67)) (w.heap.size + 1) t start (.slice none 0 0) (.slice none 0 0) w.heap.size 0 0 := by
      refine ⟨by omega, Nat.le_refl _, hB2.size, hRB, World.ownsRow_nil _ _ _ _, World.ownsRow_nil _ _ _ _, ⟨#[], 0, hM2, rfl, ?_, ?_, ?_⟩⟩
      · intro e he; simp at he
      · intro e he; simp at he
      · simp
    have C := read_any (t.length + 1) hRS (hG.below hB2) start_ok (Nat.zero_le _) (by omega) (show t.length < t.length + 1 + 0 by omega)
    have HB2 : Hid (Below w.heap.size w ((w.alloc (Obj.map #[] 0)).alloc (Obj.cells #[Value.string { data := t.toArray }, Value.int IntKind.i64 0, Value.int IntKind.i64 1, Value.slice none 0 0, Value.slice none 0 0, Value.string { data := #[] }, Value.map (some w.heap.size), Value.int IntKind.i64 0, Value.int IntKind.i64 0] 67))) := hB2
    clear hB1 hB2 hM1 hM2 hRB hRS hG hl hsz1
    go_enter Tryz.func11, Tryz.ntmps11
    go_wp2_with fail
    refine C.mono ?_
    clear C
    rintro e w1 ⟨hB3, h1, h2⟩
    have HB3 : Hid (Below w.heap.size w w1) := HB2.out.trans hB3
    clear hB3
    cases hrun : runF t (t.length + 1) start with
    | bad c p =>
      have HP := HPb.out c p hrun
      obtain ⟨rfl, hbd⟩ := h2 c p hrun
      have HP' : Hid (parseF t = ([], c, p)) := HP
      have d7 := hbd.1
      have d8 := hbd.2
      clear HP h1 h2 hrun HPb HPg hbd
      go_wp2
      go_quiet (fail)
      go_wp2
      go_ret3
      rw [HP'.out]
      exact ⟨below_drewN HB3.out _, _, rfl, World.ownsRow_nil _ _ _ _⟩
    | go s =>
      have HP := HPg.out s hrun
      obtain ⟨rfl, nv, ov, hRS⟩ := h1 s hrun
      have HP' : Hid (parseF t = (s.nodes, 0, 0)) := HP
      have d3 := hRS.rb.c3
      simp only at d3
      have HN : Hid (NO w.heap.size w1 nv s.nodes) := hRS.nod
      clear HP h1 h2 hrun HPb HPg hRS
      go_wp2
      go_ret3
      rw [HP'.out]
      exact ⟨HB3.out, _, rfl, HN.out⟩

end Go.Proofs.YtjehkpndchadbaaGreatDoor
