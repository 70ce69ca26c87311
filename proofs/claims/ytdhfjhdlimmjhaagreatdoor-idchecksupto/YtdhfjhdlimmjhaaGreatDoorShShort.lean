import Derived.Test.YtdhfjhdlimmjhaaGreatDoorShY
namespace Go.Proofs.YtdhfjhdlimmjhaaGreatDoor.Sha
open Go.RowKit
set_option maxRecDepth 100000

set_option maxRecDepth 100000 in
set_option maxHeartbeats 4000000 in
theorem short_any (a : Option Addr) (c : Nat) (m : List UInt8) (w : World) (R : Rt w) (hrd : Rd w a m) (ha : a = none → m.length = 0 ∧ c = 0) (hm : m.length ≤ 100000000) (nb : Nat) (hnb : (padR 64 m).length = 64 * nb) :
    Calls Tryz.prog 61 #[.slice a m.length c] w fun e w' => ∃ v, e = .returned v ∧ w'.ownsRow w.heap.size 5 1 v 32 ((outF 4 8 (chR (padR 64 m) nb)).map B) ∧ Below w.heap.size w w' := by
  obtain ⟨i0, hi, hz0, hz1, hz2⟩ := info_parts infoB
  have HR : Hid (Rd w a m) := hrd
  have HRt : Hid (Rt w) := R
  have Hnb : Hid (True → (padR 64 m).length = 64 * nb) := fun _ => hnb
  have hnb2 : nb ≤ 2000000 := by
    have : (padR 64 m).length ≤ m.length + 100 := by
      unfold padR; simp [tobe_length]; have : zR 64 m.length < 64 := by unfold zR; omega
      omega
    omega
  have s0 : w.cell? ⟨4, 0, none⟩ = some (.int .u32 1779033703) := R.s2 0 (by omega)
  have s1 : w.cell? ⟨4, 1, none⟩ = some (.int .u32 3144134277) := R.s2 1 (by omega)
  have s2 : w.cell? ⟨4, 2, none⟩ = some (.int .u32 1013904242) := R.s2 2 (by omega)
  have s3 : w.cell? ⟨4, 3, none⟩ = some (.int .u32 2773480762) := R.s2 3 (by omega)
  have s4 : w.cell? ⟨4, 4, none⟩ = some (.int .u32 1359893119) := R.s2 4 (by omega)
  have s5 : w.cell? ⟨4, 5, none⟩ = some (.int .u32 2600822924) := R.s2 5 (by omega)
  have s6 : w.cell? ⟨4, 6, none⟩ = some (.int .u32 528734635) := R.s2 6 (by omega)
  have s7 : w.cell? ⟨4, 7, none⟩ = some (.int .u32 1541459225) := R.s2 7 (by omega)
  clear R hrd hnb
  go_enter Tryz.func61, Tryz.ntmps61
  go_wp2_with fail
  have hA : Hid (Cl (w.alloc (.cells (S2.map U).toArray 118)) w.heap.size (S2.map U)) := alloc_cl _ _ _
  have hB := alloc_below w (.cells (S2.map U).toArray 118)
  have hsz : (w.alloc (.cells (S2.map U).toArray 118)).heap.size = w.heap.size + 1 := alloc_size _ _
  simp only [S2, List.map, U] at hA hB hsz
  clear s0 s1 s2 s3 s4 s5 s6 s7
  generalize w.alloc _ = w0 at hA hB hsz ⊢
  have HA0 : Hid (Cl w0 w.heap.size ((chR (padR 64 m) 0).map U)) := hA.out
  refine (rfilled_64 a c w0.heap.size m w0 rfl (HR.out.below hB (Nat.le_refl _)) ha hm).mono ?_
  rintro e wF ⟨vA, rfl, hownA, hbA⟩
  obtain ⟨aA, cA, rfl, _, hcA, _, hnA, hrdA, hblA⟩ := own_rd hownA
  clear hnA
  have HAF : Hid (Cl wF w.heap.size ((chR (padR 64 m) 0).map U)) := HA0.out.below hbA (by omega)
  have HRA : Hid (Rd wF aA (padR 64 m)) := hrdA
  have HOA : Hid (Off aA (padR 64 m) w.heap.size) := fun x _ e => by have := hblA x e; omega
  have HBF : Hid (Below w.heap.size w wF) := hB.trans (hbA.mono hB.size)
  have HRtF : Hid (Rt wF) := HRt.out.below HBF.out (Nat.le_refl _)
  have hg6 : 7 ≤ w.heap.size := by have := cell_lt (HRt.out.k5 0 (by omega)); omega
  have hlen := Hnb.out trivial
  rw [hlen]
  clear hA hB hsz HA0 hownA hbA hrdA hblA HR HRt Hnb
  generalize hALL : padR 64 m = ALL at *
  have HALL : Hid (True → padR 64 m = ALL) := fun _ => hALL
  clear hALL
  have hgF : w.heap.size < wF.heap.size := HAF.out.lt
  generalize hhb : w.heap.size = hb at *
  go_wp2
  go_loopw [5] (fun s ws => ∃ n : Nat, s = .int .i64 (64 * (n : Int)) ∧ n ≤ nb ∧ Hid (Cl ws hb ((chR ALL n).map U)) ∧ Hid (But wF ws hb)) (fun s _ => (64 * (nb : Int) - intOf s).toNat)
  case atStart => exact ⟨0, rfl, by omega, HAF, But.refl _ _⟩
  case round =>
    clear HAF
    obtain ⟨n, rfl, hn, hcl, hbut⟩ := hrel
    by_cases hlt : n < nb
    · have HRA2 : Hid (Rd wr aA ALL) := HRA.out.but hbut.out HOA.out
      have hgr : wF.heap.size ≤ wr.heap.size := hbut.out.size
      obtain ⟨bl, hbl⟩ : ∃ bl, bl = (ALL.drop (64 * n)).take 64 := ⟨_, rfl⟩
      have hbll : bl.length = 64 := by rw [hbl]; simp; omega
      have Hch : Hid (True → chR ALL (n + 1) = mixR (chR ALL n) bl) := fun _ => by rw [hbl]; rfl
      have HbA : Hid (∀ j, j < 64 → bl.getD j 0 = ALL.getD (64 * n + j) 0) := fun j hj => by
        rw [hbl, List.getD_eq_getElem?_getD, List.getD_eq_getElem?_getD, List.getElem?_take_of_lt hj, List.getElem?_drop]
      have hHl := chR_length ALL n
      generalize chR ALL n = HH at *
      clear hbl
      obtain ⟨ga, oa, rfl, hca⟩ : ∃ g o : Nat, aA = some ⟨g, o, none⟩ ∧ ∀ j, j < ALL.length → wr.cell? ⟨g, o + j, none⟩ = some (B (ALL.getD j 0)) := by
        rcases HRA2.out with h0 | ⟨g, o, e, _, hc⟩
        · subst h0; simp at hlen; omega
        · exact ⟨g, o, e, hc⟩
      have hga : ga ≠ hb := HOA.out _ (fun e => by subst e; simp at hlen; omega) rfl
      have HcA : Hid (∀ j, j < 64 → wr.cell? ⟨ga, oa + (64 * n + j), none⟩ = some (B (bl.getD j 0))) := fun j hj => by rw [HbA.out j hj]; exact hca _ (by omega)
      have hgal : ga < wr.heap.size := cell_lt (HcA.out 0 (by omega))
      clear hca HRA2
      go_wp2
      have hAw : Hid (Cl (wr.alloc (.cells (List.replicate 64 (.int .u32 0) : List Value).toArray 120)) wr.heap.size (List.replicate 64 (.int .u32 0))) := alloc_cl _ _ _
      have hBw := alloc_below wr (.cells (List.replicate 64 (.int .u32 0) : List Value).toArray 120)
      simp only [List.replicate] at hAw hBw
      generalize wr.alloc _ = w1 at hAw hBw ⊢
      have hlr : hb < wr.heap.size := hcl.out.lt
      have HC1 : Hid (Cl w1 hb (HH.map U)) := hcl.out.below hBw hlr
      have HB1 : Hid (But wF w1 hb) := hbut.out.trans (But.of_below hBw)
      have HcA1 : Hid (∀ j, j < 64 → w1.cell? ⟨ga, oa + (64 * n + j), none⟩ = some (B (bl.getD j 0))) := fun j hj => cell_but (HcA.out j hj) fun hg => hBw.block ga hg
      generalize hbwe : wr.heap.size = bw at *
      have HW1 : Hid (Cl w1 bw ((pad 64 (lw bl 0)).map U)) := hAw.out
      clear hAw hBw hcl hbut HcA
      go_loopw [7] (fun s ws => ∃ i : Nat, s = .int .i64 (i : Int) ∧ i ≤ 64 ∧ Hid (Cl ws bw ((pad 64 (lw bl i)).map U)) ∧ Hid (But w1 ws bw)) (fun s _ => 64 - (intOf s).toNat)
      case atStart => exact ⟨0, rfl, by omega, HW1, But.refl _ _⟩
      case round =>
        clear HW1
        obtain ⟨i, rfl, hi1, hcl, hbut⟩ := hrel
        have hll := lw_length bl i
        by_cases hl64 : i < 64
        · have hpl2 : ((pad 64 (lw bl i)).map U).length = 64 := by rw [List.length_map, pad_length _ _ (by omega)]
          have gf := hcl.out.frozen i
          obtain ⟨old, gc⟩ : ∃ v, wr.cell? ⟨bw, i, none⟩ = some v := ⟨_, hcl.out.cell i (by omega)⟩
          by_cases hl16 : i < 16
          · have Hs : Hid (True → lw bl (i + 1) = lw bl i ++ [(be (pc bl 4 i) : Int)]) := fun _ => lw_low bl i hl16
            have Hb4 : Hid (True → be (pc bl 4 i) = (((bl.getD (4 * i) 0).toNat * 256 + (bl.getD (4 * i + 1) 0).toNat) * 256 + (bl.getD (4 * i + 2) 0).toNat) * 256 + (bl.getD (4 * i + 3) 0).toNat) := fun _ => pc4 bl i (by omega)
            have hcj : ∀ j, j < 64 → wr.cell? ⟨ga, oa + (64 * n + j), none⟩ = some (B (bl.getD j 0)) := fun j hj => cell_but (HcA1.out j hj) fun hg => hbut.out.block ga hg (by omega)
            have y0 := hcj (4 * i) (by omega)
            have y1 := hcj (4 * i + 1) (by omega)
            have y2 := hcj (4 * i + 2) (by omega)
            have y3 := hcj (4 * i + 3) (by omega)
            rw [show oa + (64 * n + 4 * i) = oa + (64 * n + 4 * i) from rfl] at y0
            rw [show oa + (64 * n + (4 * i + 1)) = oa + (64 * n + 4 * i + 1) by omega] at y1
            rw [show oa + (64 * n + (4 * i + 2)) = oa + (64 * n + 4 * i + 2) by omega] at y2
            rw [show oa + (64 * n + (4 * i + 3)) = oa + (64 * n + 4 * i + 3) by omega] at y3
            unfold B at y0 y1 y2 y3
            have z0 := (bl.getD (4 * i) 0).toNat_lt
            have z1 := (bl.getD (4 * i + 1) 0).toNat_lt
            have z2 := (bl.getD (4 * i + 2) 0).toNat_lt
            have z3 := (bl.getD (4 * i + 3) 0).toNat_lt
            generalize (bl.getD (4 * i) 0).toNat = x0 at *
            generalize (bl.getD (4 * i + 1) 0).toNat = x1 at *
            generalize (bl.getD (4 * i + 2) 0).toNat = x2 at *
            generalize (bl.getD (4 * i + 3) 0).toNat = x3 at *
            have hor := or4 x0 x1 x2 x3 z0 z1 z2 z3
            clear hcj
            go_wp2
            refine wp_region_tail 31 (by kernel_rfl) (by kernel_rfl) ?_
            simp only [List.take_succ_cons, List.take_zero, List.drop_succ_cons, List.drop_zero]
            repeat (first | go_big_quiet_skip | (go_big_quiet_want; go_big_quiet_op; go_big_quiet_on))
            refine wpQuiet_nil ?_
            go_wp2
            refine ⟨⟨i + 1, by go_num, by omega, ?_, (hbut.out.drewN 1).set _ _⟩, by simp [intOf]; omega⟩
            have h1 := hcl.out.set i (U (be (pc bl 4 i) : Int))
            have h2 := pad_set 64 (lw bl i) (be (pc bl 4 i) : Int) (by omega)
            rw [hll, ← Hs.out trivial] at h2
            rw [← List.map_set, h2, Hb4.out trivial] at h1
            exact h1
          · have Hs : Hid (True → lw bl (i + 1) = lw bl i ++ [nx (lw bl i)]) := fun _ => lw_succ bl i (by omega)
            generalize lw bl i = L at *
            have hcj : ∀ j, j < i → wr.cell? ⟨bw, j, none⟩ = some (.int .u32 (L.getD j 0)) := fun j hj => by
              rw [hcl.out.cell j (by omega), List.getElem_map, pad_get _ _ _ (by omega)]
              rfl
            have g16 := hcj (i - 16) (by omega)
            have g15 := hcj (i - 15) (by omega)
            have g7 := hcj (i - 7) (by omega)
            have g2 := hcj (i - 2) (by omega)
            have Hnx : Hid (True → nx L = (L.getD (i - 16) 0 + sa (L.getD (i - 15) 0) + L.getD (i - 7) 0 + sb (L.getD (i - 2) 0)) % 4294967296) := fun _ => by
              unfold nx
              rw [hll]
              exact congrArg (· % (4294967296 : Int)) (by omega)
            generalize L.getD (i - 16) 0 = x16 at *
            generalize L.getD (i - 15) 0 = x15 at *
            generalize L.getD (i - 7) 0 = x7 at *
            generalize L.getD (i - 2) 0 = x2 at *
            clear hcj
            go_wp2
            refine wp_region_tail 29 (by kernel_rfl) (by kernel_rfl) ?_
            simp only [List.take_succ_cons, List.take_zero, List.drop_succ_cons, List.drop_zero]
            repeat (first | go_big_quiet_skip | (go_big_quiet_want; go_big_quiet_op; go_big_quiet_on))
            go_big_quiet_want
            go_big_quiet_op
            refine ⟨_, q32_7 _ _, ?_⟩
            go_big_quiet_on
            repeat (first | go_big_quiet_skip | (go_big_quiet_want; go_big_quiet_op; go_big_quiet_on))
            go_big_quiet_want
            go_big_quiet_op
            refine ⟨_, q32_18 _ _, ?_⟩
            go_big_quiet_on
            repeat (first | go_big_quiet_skip | (go_big_quiet_want; go_big_quiet_op; go_big_quiet_on))
            go_big_quiet_want
            go_big_quiet_op
            refine ⟨_, q32_17 _ _, ?_⟩
            go_big_quiet_on
            repeat (first | go_big_quiet_skip | (go_big_quiet_want; go_big_quiet_op; go_big_quiet_on))
            go_big_quiet_want
            go_big_quiet_op
            refine ⟨_, q32_19 _ _, ?_⟩
            go_big_quiet_on
            repeat (first | go_big_quiet_skip | (go_big_quiet_want; go_big_quiet_op; go_big_quiet_on))
            refine wpQuiet_nil ?_
            go_wp2
            refine ⟨⟨i + 1, by go_num, by omega, ?_, (hbut.out.drewN 1).set _ _⟩, by simp [intOf]; omega⟩
            have h1 := hcl.out.set i (U (nx L))
            have h2 := pad_set 64 L (nx L) (by omega)
            rw [hll, ← Hs.out trivial] at h2
            rw [← List.map_set, h2, Hnx.out trivial] at h1
            exact h1
        · obtain rfl : i = 64 := by omega
          rw [show ((64 : Nat) : Int) = 64 from rfl]
          obtain ⟨E, hE⟩ : ∃ E, E = ext (wds bl 16) 48 := ⟨_, rfl⟩
          have hEl : E.length = 64 := by rw [hE, ext_length, wds_length]
          have HE : Hid (True → ext (wds bl 16) 48 = E) := fun _ => hE.symm
          have HW2 : Hid (Cl wr bw (E.map U)) := by
            have h1 := hcl.out
            rw [lw_full, ← hE, pad_full _ _ hEl] at h1
            exact h1
          have HC2 : Hid (Cl wr hb (HH.map U)) := hbut.out.other HC1.out (by omega)
          have HB2 : Hid (But wF wr hb) := ⟨hbut.out.os.trans HB1.out.os, hbut.out.tape.trans HB1.out.tape, hbut.out.output.trans HB1.out.output, Nat.le_trans HB1.out.size hbut.out.size, fun k hk hne => by rw [hbut.out.block k (by have := HB1.out.size; omega) (by omega)]; exact HB1.out.block k hk hne⟩
          clear hE hcl hbut HC1 HB1 HcA1 hll hl64 hi1
          obtain ⟨c0, c1, c2, c3, c4, c5, c6, c7, rfl⟩ : ∃ c0 c1 c2 c3 c4 c5 c6 c7, HH = [c0, c1, c2, c3, c4, c5, c6, c7] := by
            rcases HH with _ | ⟨c0, _ | ⟨c1, _ | ⟨c2, _ | ⟨c3, _ | ⟨c4, _ | ⟨c5, _ | ⟨c6, _ | ⟨c7, _ | ⟨c8, r⟩⟩⟩⟩⟩⟩⟩⟩⟩ <;> simp at hHl
            exact ⟨_, _, _, _, _, _, _, _, rfl⟩
          have k0 := HC2.out.cell 0 (by simp)
          have k1 := HC2.out.cell 1 (by simp)
          have k2 := HC2.out.cell 2 (by simp)
          have k3 := HC2.out.cell 3 (by simp)
          have k4 := HC2.out.cell 4 (by simp)
          have k5 := HC2.out.cell 5 (by simp)
          have k6 := HC2.out.cell 6 (by simp)
          have k7 := HC2.out.cell 7 (by simp)
          simp only [List.map, List.getElem_cons_zero, List.getElem_cons_succ, U] at k0 k1 k2 k3 k4 k5 k6 k7
          have hwl : bw < wr.heap.size := HW2.out.lt
          have hhl : hb < wr.heap.size := HC2.out.lt
          go_wp2
          have hV : Hid (Cl (wr.alloc (.cells (([c0, c1, c2, c3, c4, c5, c6, c7] : List Int).map U).toArray 118)) wr.heap.size (([c0, c1, c2, c3, c4, c5, c6, c7] : List Int).map U)) := alloc_cl _ _ _
          have hVb := alloc_below wr (.cells (([c0, c1, c2, c3, c4, c5, c6, c7] : List Int).map U).toArray 118)
          simp only [List.map, U] at hV hVb
          generalize wr.alloc _ = w2 at hV hVb ⊢
          generalize hbv : wr.heap.size = bv at *
          have HV0 : Hid (Cl w2 bv ((l8 (rnds E (r8 [c0, c1, c2, c3, c4, c5, c6, c7]) 0)).map U)) := hV.out
          have HW3 : Hid (Cl w2 bw (E.map U)) := HW2.out.below hVb hwl
          have HC3 : Hid (Cl w2 hb (([c0, c1, c2, c3, c4, c5, c6, c7] : List Int).map U)) := HC2.out.below hVb hhl
          have HB3 : Hid (But wF w2 hb) := HB2.out.trans (But.of_below (hbv ▸ hVb))
          have hF3 : wF.heap.size ≤ bv := by have := HB2.out.size; omega
          clear hV hVb HW2 HC2 HB2 k0 k1 k2 k3 k4 k5 k6 k7
          go_loopw [12] (fun s ws => ∃ k : Nat, s = .int .i64 (k : Int) ∧ k ≤ 64 ∧ Hid (Cl ws bv ((l8 (rnds E (r8 [c0, c1, c2, c3, c4, c5, c6, c7]) k)).map U)) ∧ Hid (But w2 ws bv)) (fun s _ => 64 - (intOf s).toNat)
          case atStart => exact ⟨0, rfl, by omega, HV0, But.refl _ _⟩
          case round =>
            clear HV0
            obtain ⟨k, rfl, hk, hcl, hbut⟩ := hrel
            by_cases hl : k < 64
            · have gK := cell_but (HRtF.out.k2 k hl) fun hg => HB3.out.block _ hg (by omega)
              have gK2 := cell_but gK fun hg => hbut.out.block _ hg (by omega)
              have gE := (hbut.out.other HW3.out (by omega)).cell k (by rw [List.length_map, hEl]; exact hl)
              have hEk : E[k]'(by omega) = E.getD k 0 := by rw [List.getD_eq_getElem?_getD, List.getElem?_eq_getElem (by omega)]; rfl
              rw [List.getElem_map, hEk] at gE
              have Hn : Hid (True → rnds E (r8 [c0, c1, c2, c3, c4, c5, c6, c7]) (k + 1) = rnd (rnds E (r8 [c0, c1, c2, c3, c4, c5, c6, c7]) k) (K2.getD k 0) (E.getD k 0)) := fun _ => by
                rw [rnds, kn_K2 k hl]
              generalize rnds E (r8 [c0, c1, c2, c3, c4, c5, c6, c7]) k = r at *
              generalize E.getD k 0 = x at *
              generalize K2.getD k 0 = KK at *
              have j0 := hcl.out.cell 0 (by simp [l8])
              have j1 := hcl.out.cell 1 (by simp [l8])
              have j2 := hcl.out.cell 2 (by simp [l8])
              have j3 := hcl.out.cell 3 (by simp [l8])
              have j4 := hcl.out.cell 4 (by simp [l8])
              have j5 := hcl.out.cell 5 (by simp [l8])
              have j6 := hcl.out.cell 6 (by simp [l8])
              have j7 := hcl.out.cell 7 (by simp [l8])
              simp only [l8, List.map, List.getElem_cons_zero, List.getElem_cons_succ, U] at j0 j1 j2 j3 j4 j5 j6 j7
              unfold U at gK2 gE
              have e0 := hcl.out.frozen 0
              have e1 := hcl.out.frozen 1
              have e2 := hcl.out.frozen 2
              have e3 := hcl.out.frozen 3
              have e4 := hcl.out.frozen 4
              have e5 := hcl.out.frozen 5
              have e6 := hcl.out.frozen 6
              have e7 := hcl.out.frozen 7
              clear gK hEk
              go_wp2
              refine wp_region_tail 30 (by kernel_rfl) (by kernel_rfl) ?_
              simp only [List.take_succ_cons, List.take_zero, List.drop_succ_cons, List.drop_zero]
              repeat (first | go_big_quiet_skip | (go_big_quiet_want; go_big_quiet_op; go_big_quiet_on))
              go_big_quiet_want
              go_big_quiet_op
              refine ⟨_, q32_6 _ _, ?_⟩
              go_big_quiet_on
              repeat (first | go_big_quiet_skip | (go_big_quiet_want; go_big_quiet_op; go_big_quiet_on))
              go_big_quiet_want
              go_big_quiet_op
              refine ⟨_, q32_11 _ _, ?_⟩
              go_big_quiet_on
              repeat (first | go_big_quiet_skip | (go_big_quiet_want; go_big_quiet_op; go_big_quiet_on))
              go_big_quiet_want
              go_big_quiet_op
              refine ⟨_, q32_25 _ _, ?_⟩
              go_big_quiet_on
              repeat (first | go_big_quiet_skip | (go_big_quiet_want; go_big_quiet_op; go_big_quiet_on))
              refine wpQuiet_nil ?_
              go_wp2
              refine wp_region_tail 24 (by kernel_rfl) (by kernel_rfl) ?_
              simp only [List.take_succ_cons, List.take_zero, List.drop_succ_cons, List.drop_zero]
              repeat (first | go_big_quiet_skip | (go_big_quiet_want; go_big_quiet_op; go_big_quiet_on))
              go_big_quiet_want
              go_big_quiet_op
              refine ⟨_, q32_2 _ _, ?_⟩
              go_big_quiet_on
              repeat (first | go_big_quiet_skip | (go_big_quiet_want; go_big_quiet_op; go_big_quiet_on))
              go_big_quiet_want
              go_big_quiet_op
              refine ⟨_, q32_13 _ _, ?_⟩
              go_big_quiet_on
              repeat (first | go_big_quiet_skip | (go_big_quiet_want; go_big_quiet_op; go_big_quiet_on))
              go_big_quiet_want
              go_big_quiet_op
              refine ⟨_, q32_22 _ _, ?_⟩
              go_big_quiet_on
              repeat (first | go_big_quiet_skip | (go_big_quiet_want; go_big_quiet_op; go_big_quiet_on))
              refine wpQuiet_nil ?_
              go_wp2
              refine ⟨⟨k + 1, by go_num, by omega, ?_, ((((((((hbut.out.drewN 2).set _ _).set _ _).set _ _).set _ _).set _ _).set _ _).set _ _).set _ _⟩, by simp [intOf]; omega⟩
              rw [Hn.out trivial]
              refine cl_of_eq (set8 (hcl.out.drewN 2) rfl _ _ _ _ _ _ _ _) ?_
              have et : tt r KK x = (r.h + ge r.e + chs r.e r.f r.g + KK + x) % 4294967296 := by
                unfold tt
                exact congrArg (· % (4294967296 : Int)) (by omega)
              show _ = [U ((tt r KK x + uu r) % 4294967296), U r.a, U r.b, U r.c, U ((r.d + tt r KK x) % 4294967296), U r.e, U r.f, U r.g]
              rw [et]
              simp only [uu, Int.add_emod_emod, Int.emod_add_emod]
              rfl
            · obtain rfl : k = 64 := by omega
              rw [show ((64 : Nat) : Int) = 64 from rfl]
              clear hk hl
              generalize hr : rnds E (r8 [c0, c1, c2, c3, c4, c5, c6, c7]) 64 = r at *
              have HO : Hid (True → mixR [c0, c1, c2, c3, c4, c5, c6, c7] bl = List.zipWith (fun x y => (x + y) % 4294967296) [c0, c1, c2, c3, c4, c5, c6, c7] (l8 r)) := fun _ => by
                unfold mixR
                rw [HE.out trivial, ← hr]
              have HOl : (mixR [c0, c1, c2, c3, c4, c5, c6, c7] bl).length = 8 := by rw [HO.out trivial]; rfl
              obtain ⟨O, hO0⟩ : ∃ O, mixR [c0, c1, c2, c3, c4, c5, c6, c7] bl = O := ⟨_, rfl⟩
              rw [hO0] at HO HOl Hch
              have HC4 : Hid (Cl wr hb ((O.take 0 ++ ([c0, c1, c2, c3, c4, c5, c6, c7] : List Int).drop 0).map U)) := hbut.out.other HC3.out (by omega)
              have HB4 : Hid (But wF wr hb) := ⟨hbut.out.os.trans HB3.out.os, hbut.out.tape.trans HB3.out.tape, hbut.out.output.trans HB3.out.output, Nat.le_trans HB3.out.size hbut.out.size, fun k hk hne => by rw [hbut.out.block k (by have := HB3.out.size; omega) (by omega)]; exact HB3.out.block k hk hne⟩
              clear hr HE hO0 HC3 HB3 hbut HW3
              rename World => w4
              go_wp2
              go_loopw [17] (fun s ws => ∃ k : Nat, s = .int .i64 (k : Int) ∧ k ≤ 8 ∧ Hid (Cl ws hb ((O.take k ++ ([c0, c1, c2, c3, c4, c5, c6, c7] : List Int).drop k).map U)) ∧ Hid (But w4 ws hb)) (fun s _ => 8 - (intOf s).toNat)
              case atStart => exact ⟨0, rfl, by omega, HC4, But.refl _ _⟩
              case round =>
                clear HC4
                obtain ⟨k, rfl, hk, hcl4, hbut4⟩ := hrel
                by_cases hl : k < 8
                · have hll : (O.take k ++ ([c0, c1, c2, c3, c4, c5, c6, c7] : List Int).drop k).length = 8 := by simp; omega
                  have gf := hcl4.out.frozen k
                  have gh := hcl4.out.cell k (by rw [List.length_map, hll]; exact hl)
                  obtain ⟨x, y, hx, hy, hz⟩ : ∃ x y : Int, wr.cell? ⟨hb, k, none⟩ = some (.int .u32 x) ∧ wr.cell? ⟨bv, k, none⟩ = some (.int .u32 y) ∧ O.getD k 0 = (x + y) % 4294967296 := by
                    have hV := (hbut4.out.other hcl.out (by omega)).cell k (by simp [l8]; omega)
                    rw [List.getElem_map, List.getElem_append_right (by simp; omega)] at gh
                    rw [HO.out trivial]
                    have hq : k = 0 ∨ k = 1 ∨ k = 2 ∨ k = 3 ∨ k = 4 ∨ k = 5 ∨ k = 6 ∨ k = 7 := by omega
                    rcases hq with rfl | rfl | rfl | rfl | rfl | rfl | rfl | rfl
                    all_goals (simp [HOl] at gh; exact ⟨_, _, gh, hV, rfl⟩)
                  have Hz : Hid (True → O.getD k 0 = (x + y) % 4294967296) := fun _ => hz
                  clear hz gh
                  go_wp2
                  refine wp_region_tail 9 (by kernel_rfl) (by kernel_rfl) ?_
                  simp only [List.take_succ_cons, List.take_zero, List.drop_succ_cons, List.drop_zero]
                  repeat (first | go_big_quiet_skip | (go_big_quiet_want; go_big_quiet_op; go_big_quiet_on))
                  refine wpQuiet_nil ?_
                  go_wp2
                  refine ⟨⟨k + 1, by go_num, by omega, ?_, (hbut4.out.drewN 1).set _ _⟩, by simp [intOf]; omega⟩
                  have h1 := hcl4.out.set k (U ((x + y) % 4294967296))
                  rw [← Hz.out trivial, ← List.map_set, mix_set _ _ _ (by omega) (by simp; omega), Hz.out trivial] at h1
                  exact h1
                · obtain rfl : k = 8 := by omega
                  have HC5 : Hid (Cl wr hb ((chR ALL (n + 1)).map U)) := by
                    have h1 := hcl4.out
                    rw [List.take_of_length_le (by omega), List.drop_of_length_le (by simp), List.append_nil, ← Hch.out trivial] at h1
                    exact h1
                  have HB5 : Hid (But wF wr hb) := HB4.out.trans hbut4.out
                  clear hcl4 hbut4 hk hl HB4 hcl HO
                  go_wp2
                  refine ⟨⟨n + 1, ?_, by omega, HC5, HB5⟩, ?_⟩
                  · first | (congr 1; done) | (congr 1; omega)
                  · first | (simp [intOf]; done) | (simp [intOf]; omega)
    · obtain rfl : n = nb := by omega
      have hFl := chR_length ALL n
      have HF : Hid (∀ k, 0 ≤ (chR ALL n).getD k 0 ∧ (chR ALL n).getD k 0 < 4294967296) := chR_bd ALL n
      generalize hF0 : chR ALL n = F at *
      have HF0 : Hid (True → chR ALL n = F) := fun _ => hF0
      clear hF0
      have hB2 : Hid (Below hb w wr) := HBF.out.trans (hbut.out.below (by omega) (Nat.le_refl _))
      have HOw : Hid (wr.ownsRow (hb + 1) 5 1 (.slice none 0 0) (4 * 0) ((outF 4 0 F).map B)) := World.ownsRow_nil _ _ _ _
      have hs1 : hb ≤ wr.heap.size := by have := hcl.out.lt; omega
      clear hbut HRtF HRA HOA HBF
      go_wp2
      go_loopw [18, 19] (fun s18 s ws => ∃ k : Nat, s = .int .i64 (k : Int) ∧ k ≤ 8 ∧ Hid (ws.ownsRow (hb + 1) 5 1 s18 (4 * k) ((outF 4 k F).map B)) ∧ Hid (Cl ws hb (F.map U)) ∧ Hid (Below hb w ws) ∧ hb < ws.heap.size) (fun _ s _ => 8 - (intOf s).toNat)
      case atStart => exact ⟨0, rfl, by omega, HOw, hcl, hB2, hcl.out.lt⟩
      case round =>
        clear HOw hB2 hcl
        obtain ⟨k, rfl, hk, hown, hcl, hbel, hlt8⟩ := hrel
        by_cases hl : k < 8
        · have gk := hcl.out.cell k (by rw [List.length_map]; omega)
          have hF1 : F[k]'(by omega) = F.getD k 0 := by rw [List.getD_eq_getElem?_getD, List.getElem?_eq_getElem (by omega)]; rfl
          rw [List.getElem_map, hF1] at gk
          obtain ⟨N, hN⟩ : ∃ N : Nat, F.getD k 0 = (N : Int) := ⟨(F.getD k 0).toNat, by have := (HF.out k).1; omega⟩
          have hN2 : N < 4294967296 := by have := (HF.out k).2; omega
          have HN : Hid (True → outF 4 (k + 1) F = outF 4 k F ++ tobe 4 N) := fun _ => by rw [outF_succ, hN]; rfl
          rw [hN] at gk
          unfold U at gk
          have b1 : bits .and .u32 ((N : Int) / 65536) 255 = ((N / 65536 % 256 : Nat) : Int) := and255 (N / 65536) (by omega)
          have b2 : bits .and .u32 ((N : Int) / 256) 255 = ((N / 256 % 256 : Nat) : Int) := and255 (N / 256) (by omega)
          have b3 : bits .and .u32 (N : Int) 255 = ((N % 256 : Nat) : Int) := and255 N hN2
          have HT4 : Hid (True → tobe 4 N = [UInt8.ofNat (N / 16777216), UInt8.ofNat (N / 65536 % 256), UInt8.ofNat (N / 256 % 256), UInt8.ofNat (N % 256)]) := fun _ => tobe4 N hN2
          have q1 : N / 65536 % 256 < 256 := Nat.mod_lt _ (by omega)
          have q2 : N / 256 % 256 < 256 := Nat.mod_lt _ (by omega)
          have q3 : N % 256 < 256 := Nat.mod_lt _ (by omega)
          obtain ⟨y0, hy0⟩ : ∃ y : Nat, N / 16777216 = y := ⟨_, rfl⟩
          have q0 : y0 < 256 := by omega
          have hy0I : (N : Int) / 16777216 = (y0 : Int) := by omega
          generalize N / 65536 % 256 = y1 at *
          generalize N / 256 % 256 = y2 at *
          generalize N % 256 = y3 at *
          rw [hy0] at HT4
          have hw0 : IntKind.u8.wrap (y0 : Int) = (y0 : Int) := by rw [IntKind.wrap_u8']; omega
          have hw1 : IntKind.u8.wrap (y1 : Int) = (y1 : Int) := by rw [IntKind.wrap_u8']; omega
          have hw2 : IntKind.u8.wrap (y2 : Int) = (y2 : Int) := by rw [IntKind.wrap_u8']; omega
          have hw3 : IntKind.u8.wrap (y3 : Int) = (y3 : Int) := by rw [IntKind.wrap_u8']; omega
          clear hF1 hN hy0
          go_wp2
          go_region_held_law (fun w' => w'.cell? ⟨hb, k, none⟩ = some (.int .u32 (N : Int))) (first | assumption | go_keep) ((
             refine step_append_own rfl (.tmp 205) (.tmp 228) 81 rfl (hb + 1) 5 i0 (.int .u8 0) 1 1 Tryz.underlying81 hi hz0 hz1 hz2 rfl (by decide) u18 (4 * k) ((outF 4 k F).map B) (by simp [Act.eval]) (hown.out.alloc _) ⟨wr.heap.size, 0, none⟩ 4 4 [.int .u8 (y0 : Int), .int .u8 (y1 : Int), .int .u8 (y2 : Int), .int .u8 (y3 : Int)] (by simp [Act.eval]) rfl (by intro t u ht; match t, ht with | 0, ht => (simp at ht; subst ht; simp [Addr.add]) | 1, ht => (simp at ht; subst ht; simp [Addr.add]) | 2, ht => (simp at ht; subst ht; simp [Addr.add]) | 3, ht => (simp at ht; subst ht; simp [Addr.add])) (by intro u hu; simp at hu; rcases hu with rfl | rfl | rfl | rfl <;> rfl) (by unfold maxLen; omega) (by omega) (by simp; omega) ?_
             intro v5 w5 hown5 hgrow5 _
             have hS5 : w5.cell? ⟨hb, k, none⟩ = some (.int .u32 (N : Int)) := (cell_but gk fun hg => (by rw [hgrow5.block hb (by simp; omega) (fun e => by have := own_block hown.out hb e.symm; omega)]; exact (alloc_below wr _).block hb hg))
             have HB5 : Hid (Below (hb + 1) wr w5) := (Below.grown (Below.drew ((alloc_below wr _).mono (by omega))) hgrow5 (by simp; omega) (own_block hown.out))))
          have HO5 : Hid (w5.ownsRow (hb + 1) 5 1 v5 (4 * (k + 1)) ((outF 4 (k + 1) F).map B)) := by
            have e4 : [Value.int .u8 (y0 : Int), .int .u8 (y1 : Int), .int .u8 (y2 : Int), .int .u8 (y3 : Int)] = (tobe 4 N).map B := by
              rw [HT4.out trivial]
              simp [B, Nat.mod_eq_of_lt q0, Nat.mod_eq_of_lt q1, Nat.mod_eq_of_lt q2, Nat.mod_eq_of_lt q3]
            rw [HN.out trivial, List.map_append, ← e4]
            exact hown5
          have HC5 : Hid (Cl w5 hb (F.map U)) := hcl.out.below HB5.out (by omega)
          have HB6 : Hid (Below hb w w5) := hbel.out.trans (HB5.out.mono (by omega))
          have hlt5 : hb < w5.heap.size := HC5.out.lt
          clear hown5 hgrow5 hS5 HB5 hown hcl hbel
          go_wp2
          exact ⟨⟨k + 1, by go_num, by omega, HO5, HC5, HB6, hlt5⟩, by simp [intOf]; omega⟩
        · obtain rfl : k = 8 := by omega
          go_wp2
          go_ret
          rw [HALL.out trivial, HF0.out trivial, hhb]
          exact ⟨_, rfl, own_base hown.out (by omega), hbel.out⟩
end Go.Proofs.YtdhfjhdlimmjhaaGreatDoor.Sha