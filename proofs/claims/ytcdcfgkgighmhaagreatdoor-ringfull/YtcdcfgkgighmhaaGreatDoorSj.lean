import Derived.Test.YtcdcfgkgighmhaaGreatDoorSi
namespace Go.Proofs.YtcdcfgkgighmhaaGreatDoor
open Go.RowKit Go.Shelf

/-- What a reader tells that has met a fault. -/
def Bd (w : World) (b : Nat) (c q : Int) : Prop := w.cell? ⟨b, 7, none⟩ = some (.int .i64 c) ∧ w.cell? ⟨b, 8, none⟩ = some (.int .i64 q)
theorem RB.bd {w : World} {b : Nat} {t : List UInt8} {p : Nat} {x : X5} {c q : Int} (h : RB w b t p x c q) : Bd w b c q := ⟨h.c7, h.c8⟩

/-- Only the map of names has changed. -/
theorem RS.names {B : Nat} {w w' : World} {b : Nat} {t : List UInt8} {s : JS} {nv ov : Value} {mb : Nat} {c q : Int} {l : List (Nat × List UInt8)} (h : RS B w b t s nv ov mb c q) (hb : But w w' mb) (hm : Mp w' mb l) : RS B w' b t { s with met := l } nv ov mb c q := by
  have hmb : mb ≠ b := h.met.ne_bl h.rb
  refine ⟨h.lo, h.mlo, Nat.le_trans h.blo hb.size, Bl.but h.rb hb (fun e => hmb e.symm), ?_, ?_, hm⟩
  · exact own_keep h.nod fun g hg => hb.block g (h.nod.lt g hg).2 fun e => h.met.ne_own h.nod (by rw [hg, e])
  · exact own_keep h.opn fun g hg => hb.block g (h.opn.lt g hg).2 fun e => h.met.ne_own h.opn (by rw [hg, e])

set_option maxRecDepth 100000 in
set_option maxHeartbeats 8000000 in
theorem name_any {B : Nat} {w : World} {b : Nat} {t : List UInt8} {s : JS} {nv ov : Value} {mb : Nat} {c q : Int} (h : RS B w b t s nv ov mb c q) (hG : GL B w) (hok : OKs s) (hne : s.opn ≠ []) (hp : s.pos < t.length) (ht : t.length ≤ 1073741824) :
    Calls Tryz.prog 58 #[.pointer (some ⟨b, 0, none⟩)] w fun e w' => Below B w w' ∧
      (∀ s', nameF t s = .go s' → e = .returned (.bool true) ∧ RS B w' b t s' nv ov mb c q) ∧
      (∀ c' p', nameF t s = .bad c' p' → e = .returned (.bool false) ∧ Bd w' b c' p') := by
  obtain ⟨R, hR⟩ : ∃ R, nameF t s = R := ⟨_, rfl⟩
  rw [hR]
  have HE : Hid (nameF t s = R) := hR
  have c0 := h.rb.c0
  have c1 := h.rb.c1
  obtain ⟨d, hd⟩ : ∃ d, t.getD s.pos 0 = d := ⟨_, rfl⟩
  have gx : (⟨t.toArray⟩ : ByteArray)[s.pos]'(by show s.pos < t.toArray.size; simpa using hp) = d := by
    rw [← hd]; show t.toArray[s.pos] = _; simp [List.getD_eq_getElem?_getD, hp]
  have Hd : Hid (t.getD s.pos 0 = d) := hd
  have H : Hid (RS B w b t s nv ov mb c q) := h
  obtain ⟨xs, i, hox⟩ := snoc_of hne
  have hxl : xs.length ≤ 1000 := by have := hok.len; rw [hox] at this; simp at this; omega
  have hin : inm s = i := by unfold inm; rw [hox, last_snoc]
  have HIN : Hid (inm s = i) := hin
  have HCI : Hid (∀ wq s2, s2.opn = s.opn → RS B wq b t s2 nv ov mb c q → Calls Tryz.prog 72 #[.pointer (some ⟨b, 0, none⟩)] wq fun e w' => e = .returned (.int .i64 (i : Int)) ∧ ∃ m, w' = wq.drewN m) := fun wq s2 e hq => innermost_any hq (e.trans hox) hxl
  have CQ := quoted_any w b t s.pos _ c q h.rb hG.u8 hp ht
  have CW := wrong_any w b t s.pos _ c q h.rb
  generalize hpp : s.pos = p at *
  clear hR hd h hG hok hne hox hin
  by_cases h34 : d = 34
  · subst h34
    have HE2 : Hid ((match quoF t (t.length + 1) (p + 1) [] with
      | .bad c p => Rs.bad c p
      | .ok l p' => if s.met.contains (inm s, l) then Rs.bad 34 p else Rs.go { s with pos := p', key := l, aw := 4, met := s.met ++ [(inm s, l)] }) = R) := by
        show _ = _
        rw [← HE.out]
        unfold nameF
        rw [hpp, Hd.out, if_neg (by simp)]
        rfl
    cases hq : quoF t (t.length + 1) (p + 1) [] with
    | bad c1 q1 =>
      have Hz : Hid (R = .bad c1 q1) := by show _ = _; rw [← HE2.out, hq]
      rw [hq] at CQ
      clear hq HE2 HE CW hpp
      go_enter Tryz.func58, Tryz.ntmps58
      go_wp2_with fail
      refine CQ.mono ?_
      rintro e w1 ⟨hB1, _, h1⟩
      obtain ⟨rfl, p2, hR1⟩ := h1 c1 q1 rfl
      clear h1
      go_wp2
      go_ret
      refine ⟨H.out.bel hB1, ?_, ?_⟩
      · intro s' e; rw [Hz.out] at e; cases e
      · intro c' p' e; rw [Hz.out] at e; cases e; exact ⟨rfl, hR1.bd⟩
    | ok l p1 =>
      have Hz : Hid ((if s.met.contains (i, l) then Rs.bad 34 p else Rs.go { s with pos := p1, key := l, aw := 4, met := s.met ++ [(i, l)] }) = R) := by show _ = _; rw [← HE2.out, hq, HIN.out]
      rw [hq] at CQ
      clear hq HE2 HE CW hpp HIN
      go_enter Tryz.func58, Tryz.ntmps58
      go_wp2_with fail
      refine CQ.mono ?_
      clear CQ
      rintro e w1 ⟨hB1, h1, _⟩
      obtain ⟨rfl, hR1⟩ := h1 l p1 rfl
      have HS1 : Hid (RS B w1 b t { s with pos := p1 } nv ov mb c q) := H.out.but hB1 hR1 rfl rfl rfl
      have HB1 : Hid (Below B w w1) := H.out.bel hB1
      have c6 := HS1.out.rb.c6
      simp only at c6
      have HCI : Hid (∀ wq, RS B wq b t { s with pos := p1 } nv ov mb c q → Calls Tryz.prog 72 #[.pointer (some ⟨b, 0, none⟩)] wq fun e w' => e = .returned (.int .i64 (i : Int)) ∧ ∃ m, w' = wq.drewN m) := fun wq hq => HCI.out wq { s with pos := p1 } rfl hq
      clear h1 hB1 hR1
      by_cases hin : (i, l) ∈ s.met
      · have Hin : Hid ((i, l) ∈ s.met) := hin
        have Hz2 : Hid (R = .bad 34 p) := by show _ = _; rw [← Hz.out, if_pos (by simpa using hin)]
        clear hin Hz
        go_wp2
        refine wp_region_K 7 (fun (w' : World) => w'.cell? ⟨b, 6, none⟩ = some (.map (some mb))) (by kernel_rfl) ?_
        have hHeld : ((fun (w' : World) => w'.cell? ⟨b, 6, none⟩ = some (.map (some mb)))) (World.drew _) := c6
        refine wpAnyK_take0 0 (v := ?v1) rfl (by kernel_rfl) (fun _ _ _ h => h) (Or.inl ⟨by rfl, ?hy1⟩) (fun _ => hHeld) ?_
        case hy1 => (intro w hSw; go_simp; try with_reducible rfl)
        try simp only [Act.put, List.setIfInBounds_toArray, List.set_cons_zero, List.set_cons_succ]
        refine wpAnyK_take0 1 (v := ?v2) rfl (by kernel_rfl) (fun _ _ _ h => h) (Or.inl ⟨by rfl, ?hy2⟩) (fun _ => hHeld) ?_
        case hy2 => (intro w hSw; go_simp; try with_reducible rfl)
        try simp only [Act.put, List.setIfInBounds_toArray, List.set_cons_zero, List.set_cons_succ]
        refine wpAnyK_take0 2 (v := ?v3) rfl (by kernel_rfl) (fun _ _ _ h => h) (Or.inl ⟨by rfl, ?hy3⟩) (fun _ => hHeld) ?_
        case hy3 => (intro w hSw; go_simp; try with_reducible rfl)
        try simp only [Act.put, List.setIfInBounds_toArray, List.set_cons_zero, List.set_cons_succ]
        refine wpAnyK_take 3 [7] (v := ?v4) rfl (by kernel_rfl) (fun _ _ _ h => h) (Or.inl ⟨by rfl, ?hy4⟩) hHeld ?_
        case hy4 => (intro w hSw; (try dsimp only at hSw); go_simp; try with_reducible rfl)
        try simp only [Act.put, List.setIfInBounds_toArray, List.set_cons_zero, List.set_cons_succ]
        refine wpAnyK_take0 4 (v := ?v5) rfl (by kernel_rfl) (fun _ _ _ h => h) (Or.inl ⟨by rfl, ?hy5⟩) (fun _ => hHeld) ?_
        case hy5 => (intro w hSw; go_simp; try with_reducible rfl)
        try simp only [Act.put, List.setIfInBounds_toArray, List.set_cons_zero, List.set_cons_succ]
        refine wpAnyK_take0 6 (v := ?v6) rfl (by kernel_rfl) (fun _ _ _ h => h) (Or.inl ⟨by rfl, ?hy6⟩) (fun _ => hHeld) ?_
        case hy6 => (intro w hSw; go_simp; try with_reducible rfl)
        try simp only [Act.put, List.setIfInBounds_toArray, List.set_cons_zero, List.set_cons_succ]
        refine wpAnyK_step 5 rfl (by kernel_rfl) (fun K9 hK => ?_)
        go_simp
        refine (HCI.out _ (HS1.out.drewN 1)).mono ?_
        rintro e w9 ⟨rfl, m9, rfl⟩
        dsimp only
        refine hK.out _ _ ?hk7 ?_
        case hk7 => exact fun _ => c6
        have hHeld : ((fun (w' : World) => w'.cell? ⟨b, 6, none⟩ = some (.map (some mb)))) _ := c6
        clear hK
        try simp only [Act.put, List.setIfInBounds_toArray, List.set_cons_zero, List.set_cons_succ]
        refine wpAnyK_step 7 rfl (by kernel_rfl) (fun K hK => ?_)
        go_simp
        refine (first_old _ mb i l s.met (HS1.out.drewN (1 + m9)).met Hin.out).mono ?_
        rintro e w3 ⟨rfl, hB3⟩
        dsimp only
        refine hK.out _ _ ?hk8 ?_
        case hk8 => exact (fun h => nomatch (h.symm.trans (show _ = true by kernel_rfl)))
        clear hK K
        try simp only [Act.put, List.setIfInBounds_toArray, List.set_cons_zero, List.set_cons_succ]
        refine wpAnyK_take0 8 (v := ?v9) rfl (by kernel_rfl) (fun _ _ _ h => h) (Or.inl ⟨by rfl, ?hy9⟩) (fun h => nomatch (h.symm.trans (show _ = true by kernel_rfl))) ?_
        case hy9 => (intro w hSw; go_simp; try with_reducible rfl)
        try simp only [Act.put, List.setIfInBounds_toArray, List.set_cons_zero, List.set_cons_succ]
        refine wpAnyK_done (by kernel_rfl) ?_ _
        have hBm : But w1 w3 mb := ((But.refl w1 mb).drewN (1 + m9)).trans hB3
        have HB3 : Hid (Below B w w3) := HB1.out.trans (hBm.below HS1.out.blo HS1.out.mlo)
        have hR3 : RB w3 b t p1 ⟨.int .i64 (s.aw : Int), nv, ov, .string ⟨s.key.toArray⟩, .map (some mb)⟩ c q := Bl.but HS1.out.rb hBm (fun e => HS1.out.met.ne_bl HS1.out.rb e.symm)
        have C3 := fail_any w3 b t p1 _ c q 34 (p : Int) hR3
        have hlo := HS1.out.lo
        have hsz3 := HB3.out.size
        clear hBm hR3 hB3
        have hbw3 : B ≤ w3.heap.size := by have := HS1.out.blo; have := H.out.blo; omega
        go_wp2_with fail
        refine C3.mono ?_
        rintro e w4 ⟨rfl, hB4, hR4⟩
        go_wp2
        go_ret
        refine ⟨HB3.out.trans (hB4.below hbw3 hlo), ?_, ?_⟩
        · intro s' e; rw [Hz2.out] at e; cases e
        · intro c' p' e; rw [Hz2.out] at e; cases e; exact ⟨rfl, hR4.bd⟩
      · have Hin : Hid ((i, l) ∉ s.met) := hin
        have Hz2 : Hid (R = .go { s with pos := p1, key := l, aw := 4, met := s.met ++ [(i, l)] }) := by show _ = _; rw [← Hz.out, if_neg (by simpa using hin)]
        clear hin Hz
        go_wp2
        refine wp_region_K 7 (fun (w' : World) => w'.cell? ⟨b, 6, none⟩ = some (.map (some mb))) (by kernel_rfl) ?_
        have hHeld : ((fun (w' : World) => w'.cell? ⟨b, 6, none⟩ = some (.map (some mb)))) (World.drew _) := c6
        refine wpAnyK_take0 0 (v := ?v10) rfl (by kernel_rfl) (fun _ _ _ h => h) (Or.inl ⟨by rfl, ?hy10⟩) (fun _ => hHeld) ?_
        case hy10 => (intro w hSw; go_simp; try with_reducible rfl)
        try simp only [Act.put, List.setIfInBounds_toArray, List.set_cons_zero, List.set_cons_succ]
        refine wpAnyK_take0 1 (v := ?v11) rfl (by kernel_rfl) (fun _ _ _ h => h) (Or.inl ⟨by rfl, ?hy11⟩) (fun _ => hHeld) ?_
        case hy11 => (intro w hSw; go_simp; try with_reducible rfl)
        try simp only [Act.put, List.setIfInBounds_toArray, List.set_cons_zero, List.set_cons_succ]
        refine wpAnyK_take0 2 (v := ?v12) rfl (by kernel_rfl) (fun _ _ _ h => h) (Or.inl ⟨by rfl, ?hy12⟩) (fun _ => hHeld) ?_
        case hy12 => (intro w hSw; go_simp; try with_reducible rfl)
        try simp only [Act.put, List.setIfInBounds_toArray, List.set_cons_zero, List.set_cons_succ]
        refine wpAnyK_take 3 [7] (v := ?v13) rfl (by kernel_rfl) (fun _ _ _ h => h) (Or.inl ⟨by rfl, ?hy13⟩) hHeld ?_
        case hy13 => (intro w hSw; (try dsimp only at hSw); go_simp; try with_reducible rfl)
        try simp only [Act.put, List.setIfInBounds_toArray, List.set_cons_zero, List.set_cons_succ]
        refine wpAnyK_take0 4 (v := ?v14) rfl (by kernel_rfl) (fun _ _ _ h => h) (Or.inl ⟨by rfl, ?hy14⟩) (fun _ => hHeld) ?_
        case hy14 => (intro w hSw; go_simp; try with_reducible rfl)
        try simp only [Act.put, List.setIfInBounds_toArray, List.set_cons_zero, List.set_cons_succ]
        refine wpAnyK_take0 6 (v := ?v15) rfl (by kernel_rfl) (fun _ _ _ h => h) (Or.inl ⟨by rfl, ?hy15⟩) (fun _ => hHeld) ?_
        case hy15 => (intro w hSw; go_simp; try with_reducible rfl)
        try simp only [Act.put, List.setIfInBounds_toArray, List.set_cons_zero, List.set_cons_succ]
        refine wpAnyK_step 5 rfl (by kernel_rfl) (fun K9 hK => ?_)
        go_simp
        refine (HCI.out _ (HS1.out.drewN 1)).mono ?_
        rintro e w9 ⟨rfl, m9, rfl⟩
        dsimp only
        refine hK.out _ _ ?hk16 ?_
        case hk16 => exact fun _ => c6
        have hHeld : ((fun (w' : World) => w'.cell? ⟨b, 6, none⟩ = some (.map (some mb)))) _ := c6
        clear hK
        try simp only [Act.put, List.setIfInBounds_toArray, List.set_cons_zero, List.set_cons_succ]
        refine wpAnyK_step 7 rfl (by kernel_rfl) (fun K hK => ?_)
        go_simp
        refine (first_new _ mb i l s.met (HS1.out.drewN (1 + m9)).met Hin.out).mono ?_
        rintro e w3 ⟨rfl, hB3, hM3⟩
        dsimp only
        refine hK.out _ _ ?hk17 ?_
        case hk17 => exact (fun h => nomatch (h.symm.trans (show _ = true by kernel_rfl)))
        clear hK K
        try simp only [Act.put, List.setIfInBounds_toArray, List.set_cons_zero, List.set_cons_succ]
        refine wpAnyK_take0 8 (v := ?v18) rfl (by kernel_rfl) (fun _ _ _ h => h) (Or.inl ⟨by rfl, ?hy18⟩) (fun h => nomatch (h.symm.trans (show _ = true by kernel_rfl))) ?_
        case hy18 => (intro w hSw; go_simp; try with_reducible rfl)
        try simp only [Act.put, List.setIfInBounds_toArray, List.set_cons_zero, List.set_cons_succ]
        refine wpAnyK_done (by kernel_rfl) ?_ _
        have hBm : But w1 w3 mb := ((But.refl w1 mb).drewN (1 + m9)).trans hB3
        have HB3 : Hid (Below B w w3) := HB1.out.trans (hBm.below HS1.out.blo HS1.out.mlo)
        have HS3 : Hid (RS B w3 b t { s with pos := p1, met := s.met ++ [(i, l)] } nv ov mb c q) := HS1.out.names hBm hM3
        have d5 := HS3.out.rb.c5
        have d2 := HS3.out.rb.c2
        have g5 := HS3.out.rb.fz 5
        simp only at d5 d2
        have HS4 : Hid (RS B (w3.setCell ⟨b, 5, none⟩ (.string ⟨l.toArray⟩)) b t { s with pos := p1, key := l, met := s.met ++ [(i, l)] } nv ov mb c q) := HS3.out.but ((But.refl _ _).set _ _) (by have := HS3.out.rb.s5 (.string ⟨l.toArray⟩); exact this) rfl rfl rfl
        have d2' := HS4.out.rb.c2
        have g2' := HS4.out.rb.fz 2
        simp only at d2'
        have HS5 : Hid (RS B ((w3.setCell ⟨b, 5, none⟩ (.string ⟨l.toArray⟩)).setCell ⟨b, 2, none⟩ (.int .i64 (4 : Nat))) b t { s with pos := p1, key := l, aw := 4, met := s.met ++ [(i, l)] } nv ov mb c q) := HS4.out.but ((But.refl _ _).set _ _) (by have := HS4.out.rb.s2 (.int .i64 (4 : Nat)); exact this) rfl rfl rfl
        have HB5 : Hid (Below B w ((w3.setCell ⟨b, 5, none⟩ (.string ⟨l.toArray⟩)).setCell ⟨b, 2, none⟩ (.int .i64 (4 : Nat)))) := HB3.out.trans (HS3.out.bel (((But.refl _ _).set _ _).set _ _))
        clear hBm hB3 hM3
        go_wp2
        go_ret
        refine ⟨HB5.out, ?_, ?_⟩
        · intro s' e; rw [Hz2.out] at e; cases e; exact ⟨rfl, HS5.out⟩
        · intro c' p' e; rw [Hz2.out] at e; cases e
  · have h34n : ((d.toNat : Int) == 34) = false := by
      have : d.toNat ≠ 34 := fun e => h34 (UInt8.toNat_inj.1 e)
      simp; omega
    have Hz : Hid (R = .bad 31 p) := by show _ = _; rw [← HE.out]; unfold nameF; rw [hpp, Hd.out, if_pos h34]
    clear HE h34 CQ hpp
    go_enter Tryz.func58, Tryz.ntmps58
    go_wp2_with fail
    refine CW.mono ?_
    rintro e w1 ⟨rfl, hB1, hR1⟩
    go_wp2
    go_ret
    refine ⟨H.out.bel hB1, ?_, ?_⟩
    · intro s' e; rw [Hz.out] at e; cases e
    · intro c' p' e; rw [Hz.out] at e; cases e; exact ⟨rfl, hR1.bd⟩

end Go.Proofs.YtcdcfgkgighmhaaGreatDoor
