import Derived.Test.YtdhfjhdlimmjhaaGreatDoorShZc
namespace Go.Proofs.YtdhfjhdlimmjhaaGreatDoor.Sha
open Go.RowKit
set_option maxRecDepth 100000

set_option maxRecDepth 100000 in
set_option maxHeartbeats 2000000 in
theorem mixN_any (b : Nat) (h : Int) (ch : List Int) (ct : Nat) (tl : List UInt8) (w : World) (H : Cl w b (stV h ch ct tl)) (h8 : ch.length = 8) (ht : tl.length = 128) (T : Tb w) (hb7 : 11 ≤ b) :
    Calls Tryz.prog 104 #[.pointer (some ⟨b, 0, none⟩)] w fun e w' => e = .returned (.tuple #[]) ∧ Cl w' b (stV h (mixN ch (tl.take 64)) ct tl) ∧ But w w' b := by
  have HH : Hid (Cl w b (stV h ch ct tl)) := H
  have HT : Hid (Tb w) := T
  have hbs : b < w.heap.size := H.lt
  have hbl : (tl.take 64).length = 64 := by simp; omega
  clear H T
  go_enter Tryz.func104, Tryz.ntmps104
  go_wp2
  have hA : Hid (Cl (w.alloc (.cells (List.replicate 64 (.int .u32 0) : List Value).toArray 120)) w.heap.size (List.replicate 64 (.int .u32 0))) := alloc_cl _ _ _
  have hB := alloc_below w (.cells (List.replicate 64 (.int .u32 0) : List Value).toArray 120)
  simp only [List.replicate] at hA hB
  generalize w.alloc _ = w0 at hA hB ⊢
  generalize hbw : w.heap.size = bw at *
  have HA : Hid (Cl w0 bw ((pad 64 (wds (tl.take 64) 0)).map U)) := hA.out
  have HB : Hid (Below bw w w0) := hB
  clear hA hB
  go_loopw [24] (fun s wr => ∃ k : Nat, s = .int .i64 (k : Int) ∧ k ≤ 16 ∧ Hid (Cl wr bw ((pad 64 (wds (tl.take 64) k)).map U)) ∧ Hid (Below bw w wr)) (fun s _ => 16 - (intOf s).toNat)
  case atStart => exact ⟨0, rfl, Nat.zero_le _, HA, HB⟩
  case round =>
    obtain ⟨k, rfl, hk, hcl, hbel⟩ := hrel
    by_cases hlt : k < 16
    · have hsl := tail_slice b (4 * k) (4 * k + 4) wr (4 * (k : Int)) (4 * (k : Int) + 4) (by omega) (by omega) (by omega) (by omega) (by omega)
      rw [show 4 * k + 4 - 4 * k = 4 by omega] at hsl
      have hpl : (pc (tl.take 64) 4 k).length = 4 := pc_length _ _ _ (by omega)
      have C := get_any b (10 + 4 * k) (128 - 4 * k) (pc (tl.take 64) 4 k) wr (fun j hj => by
        have hj2 : 4 * k + j < (tl.take 64).length := by omega
        have hj3 : 4 * k + j < tl.length := by omega
        rw [Nat.add_assoc, stV_tail (HH.out.below hbel.out hbs) h8 (4 * k + j) hj3, pc_get _ _ _ _ (by omega) hj hj2, List.getElem_take]) (by omega)
      rw [hpl] at C
      have Hs : Hid (wds (tl.take 64) (k + 1) = wds (tl.take 64) k ++ [(be (pc (tl.take 64) 4 k) : Int)]) := wds_succ _ _
      have hbe : be (pc (tl.take 64) 4 k) < 4294967296 := by have := be_lt (pc (tl.take 64) 4 k); rw [hpl] at this; exact this
      generalize be (pc (tl.take 64) 4 k) = x at *
      clear hpl
      have hpl2 : ((pad 64 (wds (tl.take 64) k)).map U).length = 64 := by rw [List.length_map, pad_length _ _ (by rw [wds_length]; omega)]
      have gf := hcl.out.frozen k
      obtain ⟨old, gc⟩ : ∃ v, wr.cell? ⟨bw, k, none⟩ = some v := ⟨_, hcl.out.cell k (by omega)⟩
      go_wp2_with fail
      refine C.mono ?_
      rintro e w1 ⟨rfl, rfl⟩
      clear C hsl
      go_wp2
      go_roundw
      case rel =>
        refine ⟨k + 1, by go_num, by omega, ?_, hbel.out.setCell (Nat.le_refl _) _⟩
        have h1 := hcl.out.set k (U x)
        have h2 := pad_set 64 (wds (tl.take 64) k) x (by rw [wds_length]; omega)
        rw [wds_length, ← Hs.out] at h2
        rw [← List.map_set, h2] at h1
        exact h1
      case measure => simp [intOf]; omega
    · obtain rfl : k = 16 := by omega
      have HA2 : Hid (Cl wr bw ((pad 64 (ext (wds (tl.take 64) 16) (16 - 16))).map U)) := hcl
      clear HA HB hcl hlt hk
      go_wp2
      go_loopw [4] (fun s ws => ∃ i : Nat, s = .int .i64 (i : Int) ∧ 16 ≤ i ∧ i ≤ 64 ∧ Hid (Cl ws bw ((pad 64 (ext (wds (tl.take 64) 16) (i - 16))).map U)) ∧ Hid (Below bw w ws)) (fun s _ => 64 - (intOf s).toNat)
      case atStart => exact ⟨16, rfl, by omega, by omega, HA2, hbel⟩
      case round =>
        clear HA2
        clear hbel
        obtain ⟨i, rfl, hi1, hi2, hcl, hbel⟩ := hrel
        by_cases hlt : i < 64
        · generalize hL : ext (wds (tl.take 64) 16) (i - 16) = L at hcl
          have hLl : L.length = i := by rw [← hL, ext_length, wds_length]; omega
          have hpl2 : ((pad 64 L).map U).length = 64 := by rw [List.length_map, pad_length _ _ (by omega)]
          have Hn : Hid (ext (wds (tl.take 64) 16) (i + 1 - 16) = L ++ [nx L]) := by
            show _ = _
            rw [show i + 1 - 16 = (i - 16) + 1 by omega, ext, hL]
          have hcj : ∀ j, j < i → wr.cell? ⟨bw, j, none⟩ = some (.int .u32 (L.getD j 0)) := fun j hj => by
            rw [hcl.out.cell j (by omega), List.getElem_map, pad_get _ _ _ (by omega)]
            rfl
          have g16 := hcj (i - 16) (by omega)
          have g15 := hcj (i - 15) (by omega)
          have g7 := hcj (i - 7) (by omega)
          have g2 := hcj (i - 2) (by omega)
          have gf := hcl.out.frozen i
          obtain ⟨old, gc⟩ : ∃ v, wr.cell? ⟨bw, i, none⟩ = some v := ⟨_, hcl.out.cell i (by omega)⟩
          have Hnx : Hid (nx L = (L.getD (i - 16) 0 + L.getD (i - 7) 0 + sa (L.getD (i - 15) 0) + sb (L.getD (i - 2) 0)) % 4294967296) := by
            show _ = _
            unfold nx
            rw [hLl]
          generalize L.getD (i - 16) 0 = x16 at *
          generalize L.getD (i - 15) 0 = x15 at *
          generalize L.getD (i - 7) 0 = x7 at *
          generalize L.getD (i - 2) 0 = x2 at *
          clear hcj hL
          go_wp2
          go_quiet (fail)
          go_wp2
          refine wp_region_tail 29 (by kernel_rfl) (by kernel_rfl) ?_
          simp only [List.take_succ_cons, List.take_zero, List.drop_succ_cons, List.drop_zero]
          repeat (first | go_big_quiet_skip | (go_big_quiet_want; go_big_quiet_op; go_big_quiet_on))
          go_big_quiet_want
          go_big_quiet_op
          refine ⟨_, t32_7 _ _, ?_⟩
          go_big_quiet_on
          repeat (first | go_big_quiet_skip | (go_big_quiet_want; go_big_quiet_op; go_big_quiet_on))
          go_big_quiet_want
          go_big_quiet_op
          refine ⟨_, t32_18 _ _, ?_⟩
          go_big_quiet_on
          repeat (first | go_big_quiet_skip | (go_big_quiet_want; go_big_quiet_op; go_big_quiet_on))
          go_big_quiet_want
          go_big_quiet_op
          refine ⟨_, t32_17 _ _, ?_⟩
          go_big_quiet_on
          repeat (first | go_big_quiet_skip | (go_big_quiet_want; go_big_quiet_op; go_big_quiet_on))
          go_big_quiet_want
          go_big_quiet_op
          refine ⟨_, t32_19 _ _, ?_⟩
          go_big_quiet_on
          repeat (first | go_big_quiet_skip | (go_big_quiet_want; go_big_quiet_op; go_big_quiet_on))
          refine wpQuiet_nil ?_
          go_wp2
          refine ⟨⟨i + 1, by go_num, by omega, by omega, ?_, below_drewN (hbel.out.setCell (Nat.le_refl _) _) _⟩, by simp [intOf]; omega⟩
          have h1 := hcl.out.set i (U (nx L))
          have h2 := pad_set 64 L (nx L) (by omega)
          rw [hLl, ← Hn.out] at h2
          rw [← List.map_set, h2, Hnx.out] at h1
          exact h1
        · obtain rfl : i = 64 := by omega
          have HA3 : Hid (Cl wr bw ((ext (wds (tl.take 64) 16) 48).map U)) := by
            have h1 := hcl.out
            rw [pad_full _ _ (by rw [ext_length, wds_length])] at h1
            exact h1
          clear hcl hlt hi1 hi2
          have HC := HH.out.below hbel.out hbs
          obtain ⟨c0, c1, c2, c3, c4, c5, c6, c7, rfl⟩ : ∃ c0 c1 c2 c3 c4 c5 c6 c7, ch = [c0, c1, c2, c3, c4, c5, c6, c7] := by
            rcases ch with _ | ⟨c0, _ | ⟨c1, _ | ⟨c2, _ | ⟨c3, _ | ⟨c4, _ | ⟨c5, _ | ⟨c6, _ | ⟨c7, _ | ⟨c8, r⟩⟩⟩⟩⟩⟩⟩⟩⟩ <;> simp at h8
            exact ⟨_, _, _, _, _, _, _, _, rfl⟩
          have k0 := stV_chain HC 0 (by simp)
          have k1 := stV_chain HC 1 (by simp)
          have k2 := stV_chain HC 2 (by simp)
          have k3 := stV_chain HC 3 (by simp)
          have k4 := stV_chain HC 4 (by simp)
          have k5 := stV_chain HC 5 (by simp)
          have k6 := stV_chain HC 6 (by simp)
          have k7 := stV_chain HC 7 (by simp)
          simp only [List.getElem_cons_zero, List.getElem_cons_succ, V, Nat.reduceAdd] at k0 k1 k2 k3 k4 k5 k6 k7
          have HC' : Hid (Cl wr b (stV h [c0, c1, c2, c3, c4, c5, c6, c7] ct tl)) := HC
          clear HC
          have hws : bw < wr.heap.size := HA3.out.lt
          have hb9 : b < wr.heap.size := by omega
          have hb10 : b ≠ wr.heap.size := by omega
          go_wp2
          have hV : Hid (Cl (wr.alloc (.cells (List.replicate 8 (.int .u32 0) : List Value).toArray 118)) wr.heap.size (List.replicate 8 (.int .u32 0))) := alloc_cl _ _ _
          have hVb := alloc_below wr (.cells (List.replicate 8 (.int .u32 0) : List Value).toArray 118)
          simp only [List.replicate] at hV hVb
          generalize wr.alloc _ = wv at hV hVb ⊢
          generalize hbv : wr.heap.size = bv at *
          have HV : Hid (Cl wv bv ((pad 8 (([c0 % 4294967296, c1 % 4294967296, c2 % 4294967296, c3 % 4294967296, c4 % 4294967296, c5 % 4294967296, c6 % 4294967296, c7 % 4294967296] : List Int).take 0)).map U)) := hV.out
          have HA4 : Hid (Cl wv bw ((ext (wds (tl.take 64) 16) 48).map U)) := HA3.out.below hVb hws
          have HS4 : Hid (Cl wv b (stV h [c0, c1, c2, c3, c4, c5, c6, c7] ct tl)) := HC'.out.below hVb hb9
          have HT4 : Hid (Tb wv) := (HT.out.below (hbw ▸ hbel.out)).below (hbv ▸ hVb)
          have HB4 : Hid (Below bw w wv) := hbel.out.trans (hVb.mono (by omega))
          clear hV hVb HA3 HC' hbel k0 k1 k2 k3 k4 k5 k6 k7 hb9 hb10
          go_loopw [86] (fun s ws => ∃ k : Nat, s = .int .i64 (k : Int) ∧ k ≤ 8 ∧ Hid (Cl ws bv ((pad 8 (([c0 % 4294967296, c1 % 4294967296, c2 % 4294967296, c3 % 4294967296, c4 % 4294967296, c5 % 4294967296, c6 % 4294967296, c7 % 4294967296] : List Int).take k)).map U)) ∧ Hid (But wv ws bv)) (fun s _ => 8 - (intOf s).toNat)
          case atStart => exact ⟨0, rfl, by omega, HV, But.refl _ _⟩
          case round =>
            obtain ⟨k, rfl, hk, hcl, hbut⟩ := hrel
            by_cases hlt : k < 8
            · have gf := hcl.out.frozen k
              obtain ⟨old, gc⟩ : ∃ v, wr.cell? ⟨bv, k, none⟩ = some v := ⟨_, hcl.out.cell k (by rw [List.length_map, pad_length _ _ (by simp; omega)]; exact hlt)⟩
              obtain ⟨x, ix, hx⟩ : ∃ x : Int, (Instr.index 100 (.agg #[.int .u64 c0, .int .u64 c1, .int .u64 c2, .int .u64 c3, .int .u64 c4, .int .u64 c5, .int .u64 c6, .int .u64 c7]) (.int .i64 (k : Int))).run Tryz.prog wr = .ok (.int .u64 x) wr ∧ ([c0 % 4294967296, c1 % 4294967296, c2 % 4294967296, c3 % 4294967296, c4 % 4294967296, c5 % 4294967296, c6 % 4294967296, c7 % 4294967296] : List Int).take (k + 1) = ([c0 % 4294967296, c1 % 4294967296, c2 % 4294967296, c3 % 4294967296, c4 % 4294967296, c5 % 4294967296, c6 % 4294967296, c7 % 4294967296] : List Int).take k ++ [x % 4294967296] := by
                have hq : k = 0 ∨ k = 1 ∨ k = 2 ∨ k = 3 ∨ k = 4 ∨ k = 5 ∨ k = 6 ∨ k = 7 := by omega
                rcases hq with rfl | rfl | rfl | rfl | rfl | rfl | rfl | rfl
                all_goals exact ⟨_, idx_agg 100 99 8 .u64 _ _ _ wr (by kernel_rfl) (by kernel_rfl) (by kernel_rfl) (by decide) rfl, rfl⟩
              have Hx : Hid (([c0 % 4294967296, c1 % 4294967296, c2 % 4294967296, c3 % 4294967296, c4 % 4294967296, c5 % 4294967296, c6 % 4294967296, c7 % 4294967296] : List Int).take (k + 1) = ([c0 % 4294967296, c1 % 4294967296, c2 % 4294967296, c3 % 4294967296, c4 % 4294967296, c5 % 4294967296, c6 % 4294967296, c7 % 4294967296] : List Int).take k ++ [x % 4294967296]) := hx
              clear HV HA4 HS4 HT4 HB4 hx
              go_wp2
              refine ⟨⟨k + 1, by go_num, by omega, ?_, hbut.out.set _ _⟩, by simp [intOf]; omega⟩
              have h1 := hcl.out.set k (U (x % 4294967296))
              have h2 := pad_set 8 (([c0 % 4294967296, c1 % 4294967296, c2 % 4294967296, c3 % 4294967296, c4 % 4294967296, c5 % 4294967296, c6 % 4294967296, c7 % 4294967296] : List Int).take k) (x % 4294967296) (by simp; omega)
              rw [← Hx.out, List.length_take, Nat.min_eq_left (by simp; omega)] at h2
              rw [← List.map_set, h2] at h1
              exact h1
            · obtain rfl : k = 8 := by omega
              have HA5 : Hid (Cl wr bw ((ext (wds (tl.take 64) 16) 48).map U)) := hbut.out.other HA4.out (by omega)
              have HS5 : Hid (Cl wr b (stV h [c0, c1, c2, c3, c4, c5, c6, c7] ct tl)) := hbut.out.other HS4.out (by omega)
              have HT5 : Hid (Tb wr) := HT4.out.but hbut.out (by omega)
              have HB5 : Hid (Below bw w wr) := HB4.out.trans (hbut.out.below (by have := HA4.out.lt; omega) (by omega))
              have HV5 : Hid (Cl wr bv (([c0 % 4294967296, c1 % 4294967296, c2 % 4294967296, c3 % 4294967296, c4 % 4294967296, c5 % 4294967296, c6 % 4294967296, c7 % 4294967296] : List Int).map U)) := hcl
              clear HV HA4 HS4 HT4 HB4 hbut hcl hk hlt
              have v0 := HV5.out.cell 0 (by simp)
              have v1 := HV5.out.cell 1 (by simp)
              have v2 := HV5.out.cell 2 (by simp)
              have v3 := HV5.out.cell 3 (by simp)
              have v4 := HV5.out.cell 4 (by simp)
              have v5 := HV5.out.cell 5 (by simp)
              have v6 := HV5.out.cell 6 (by simp)
              have v7 := HV5.out.cell 7 (by simp)
              simp only [List.map, List.getElem_cons_zero, List.getElem_cons_succ, U] at v0 v1 v2 v3 v4 v5 v6 v7
              have hEl : (ext (wds (tl.take 64) 16) 48).length = 64 := by rw [ext_length, wds_length]
              generalize hE : ext (wds (tl.take 64) 16) 48 = E at HA5 hEl
              have HE : Hid (True → ext (wds (tl.take 64) 16) 48 = E) := fun _ => hE
              clear hE
              have HR : Hid (wr.rangeAt bw 0 (E.map U)) := fun j v hj => by
                obtain ⟨hj1, hj2⟩ := List.getElem?_eq_some_iff.1 hj
                rw [Nat.zero_add, HA5.out.cell j hj1, hj2]
              have HI : Hid ((Tryz.prog.info? 120).map (·.size) = some (E.map U).length) := by
                show _ = _
                rw [List.length_map, hEl]; kernel_rfl
              have HU : Hid (∀ j, j < 64 → (E.map U)[j]? = some (.int .u32 (E.getD j 0))) := fun j hj => by
                have hjE : j < E.length := by omega
                simp [hjE, U]
              generalize E.map U = LU at *
              clear hEl
              go_wp2
              go_quiet (fail)
              clear v0 v1 v2 v3 v4 v5 v6 v7
              go_wp2_with (refine wpList_load_mid rfl 120 _ rfl bw 0 rfl LU (.array 64 117) HR.out (by kernel_rfl) rfl HI.out ?_)
              rename World => wz
              go_loopw [10, 11, 12, 13, 14, 15, 16, 17, 112] (fun s0 s1 s2 s3 s4 s5 s6 s7 s ws => ∃ k q : Nat, s = .int .i64 (k : Int) ∧ k ≤ 64 ∧ s0 = .int .u32 (rnds E (r8 [c0 % 4294967296, c1 % 4294967296, c2 % 4294967296, c3 % 4294967296, c4 % 4294967296, c5 % 4294967296, c6 % 4294967296, c7 % 4294967296]) k).a ∧ s1 = .int .u32 (rnds E (r8 [c0 % 4294967296, c1 % 4294967296, c2 % 4294967296, c3 % 4294967296, c4 % 4294967296, c5 % 4294967296, c6 % 4294967296, c7 % 4294967296]) k).b ∧ s2 = .int .u32 (rnds E (r8 [c0 % 4294967296, c1 % 4294967296, c2 % 4294967296, c3 % 4294967296, c4 % 4294967296, c5 % 4294967296, c6 % 4294967296, c7 % 4294967296]) k).c ∧ s3 = .int .u32 (rnds E (r8 [c0 % 4294967296, c1 % 4294967296, c2 % 4294967296, c3 % 4294967296, c4 % 4294967296, c5 % 4294967296, c6 % 4294967296, c7 % 4294967296]) k).d ∧ s4 = .int .u32 (rnds E (r8 [c0 % 4294967296, c1 % 4294967296, c2 % 4294967296, c3 % 4294967296, c4 % 4294967296, c5 % 4294967296, c6 % 4294967296, c7 % 4294967296]) k).e ∧ s5 = .int .u32 (rnds E (r8 [c0 % 4294967296, c1 % 4294967296, c2 % 4294967296, c3 % 4294967296, c4 % 4294967296, c5 % 4294967296, c6 % 4294967296, c7 % 4294967296]) k).f ∧ s6 = .int .u32 (rnds E (r8 [c0 % 4294967296, c1 % 4294967296, c2 % 4294967296, c3 % 4294967296, c4 % 4294967296, c5 % 4294967296, c6 % 4294967296, c7 % 4294967296]) k).g ∧ s7 = .int .u32 (rnds E (r8 [c0 % 4294967296, c1 % 4294967296, c2 % 4294967296, c3 % 4294967296, c4 % 4294967296, c5 % 4294967296, c6 % 4294967296, c7 % 4294967296]) k).h ∧ ws = wz.drewN q) (fun _ _ _ _ _ _ _ _ s _ => 64 - (intOf s).toNat)
              case atStart => exact ⟨0, nq, rfl, by omega, rfl, rfl, rfl, rfl, rfl, rfl, rfl, rfl, rfl⟩
              case round =>
                obtain ⟨k, q, rfl, hk, rfl, rfl, rfl, rfl, rfl, rfl, rfl, rfl, rfl⟩ := hrel
                by_cases hlt : k < 64
                · have gK := HT5.out.k k (by omega)
                  unfold V at gK
                  have ix : ∀ w, (Instr.index 120 (.agg LU.toArray) (.int .i64 (k : Int))).run Tryz.prog w = .ok (.int .u32 (E.getD k 0)) w := fun w => idx_agg (P := Tryz.prog) 120 117 64 .u32 LU.toArray k (.int .u32 (E.getD k 0)) w (by kernel_rfl) (by kernel_rfl) (by kernel_rfl) hlt (by rw [List.getElem?_toArray]; exact HU.out k hlt)
                  have Hn : Hid (True → rnds E (r8 [c0 % 4294967296, c1 % 4294967296, c2 % 4294967296, c3 % 4294967296, c4 % 4294967296, c5 % 4294967296, c6 % 4294967296, c7 % 4294967296]) (k + 1) = rnd (rnds E (r8 [c0 % 4294967296, c1 % 4294967296, c2 % 4294967296, c3 % 4294967296, c4 % 4294967296, c5 % 4294967296, c6 % 4294967296, c7 % 4294967296]) k) (KT.getD k 0 / 4294967296) (E.getD k 0)) := fun _ => rfl
                  generalize rnds E (r8 [c0 % 4294967296, c1 % 4294967296, c2 % 4294967296, c3 % 4294967296, c4 % 4294967296, c5 % 4294967296, c6 % 4294967296, c7 % 4294967296]) k = r at *
                  generalize E.getD k 0 = x at *
                  generalize KT.getD k 0 = K at *
                  go_wp2
                  refine wp_region_tail 27 (by kernel_rfl) (by kernel_rfl) ?_
                  simp only [List.take_succ_cons, List.take_zero, List.drop_succ_cons, List.drop_zero]
                  repeat (first | go_big_quiet_skip | (go_big_quiet_want; go_big_quiet_op; go_big_quiet_on))
                  go_big_quiet_want
                  go_big_quiet_op
                  refine ⟨_, t32_6 _ _, ?_⟩
                  go_big_quiet_on
                  repeat (first | go_big_quiet_skip | (go_big_quiet_want; go_big_quiet_op; go_big_quiet_on))
                  go_big_quiet_want
                  go_big_quiet_op
                  refine ⟨_, t32_11 _ _, ?_⟩
                  go_big_quiet_on
                  repeat (first | go_big_quiet_skip | (go_big_quiet_want; go_big_quiet_op; go_big_quiet_on))
                  go_big_quiet_want
                  go_big_quiet_op
                  refine ⟨_, t32_25 _ _, ?_⟩
                  go_big_quiet_on
                  repeat (first | go_big_quiet_skip | (go_big_quiet_want; go_big_quiet_op; go_big_quiet_on))
                  refine wpQuiet_nil ?_
                  go_wp2_with fail
                  refine (t32_2 _ _).mono ?_
                  rintro e w1 ⟨rfl, rfl⟩
                  go_wp2_with fail
                  refine (t32_13 _ _).mono ?_
                  rintro e w1 ⟨rfl, rfl⟩
                  go_wp2_with fail
                  refine (t32_22 _ _).mono ?_
                  rintro e w1 ⟨rfl, rfl⟩
                  go_wp2
                  refine ⟨⟨k + 1, _, by go_num, by omega, ?_, ?_, ?_, ?_, ?_, ?_, ?_, ?_, rfl⟩, by simp [intOf]; omega⟩
                  all_goals (rw [Hn.out trivial]; rfl)
                · obtain rfl : k = 64 := by omega
                  clear hk hlt HU HR HI
                  generalize hr : rnds E (r8 [c0 % 4294967296, c1 % 4294967296, c2 % 4294967296, c3 % 4294967296, c4 % 4294967296, c5 % 4294967296, c6 % 4294967296, c7 % 4294967296]) 64 = r at *
                  have HO : Hid (True → mixN [c0, c1, c2, c3, c4, c5, c6, c7] (tl.take 64) = List.zipWith (fun x y => (x + y) % 4294967296) [c0 % 4294967296, c1 % 4294967296, c2 % 4294967296, c3 % 4294967296, c4 % 4294967296, c5 % 4294967296, c6 % 4294967296, c7 % 4294967296] (l8 r)) := fun _ => by
                    unfold mixN
                    rw [HE.out trivial, ← hr]
                    rfl
                  have HOl : (mixN [c0, c1, c2, c3, c4, c5, c6, c7] (tl.take 64)).length = 8 := by rw [HO.out trivial]; rfl
                  obtain ⟨O, hO0⟩ : ∃ O, mixN [c0, c1, c2, c3, c4, c5, c6, c7] (tl.take 64) = O := ⟨_, rfl⟩
                  rw [hO0] at HO HOl
                  have HO0 : Hid (True → mixN [c0, c1, c2, c3, c4, c5, c6, c7] (tl.take 64) = O) := fun _ => hO0
                  clear hO0
                  clear hr HE
                  have HS6 : Hid (Cl (wz.drewN q) b (stV h (O.take 0 ++ ([c0, c1, c2, c3, c4, c5, c6, c7] : List Int).drop 0) ct tl)) := HS5
                  go_wp2
                  go_loopw [185] (fun s ws => ∃ k : Nat, s = .int .i64 (k : Int) ∧ k ≤ 8 ∧ Hid (Cl ws b (stV h (O.take k ++ ([c0, c1, c2, c3, c4, c5, c6, c7] : List Int).drop k) ct tl)) ∧ Hid (But wz ws b)) (fun s _ => 8 - (intOf s).toNat)
                  case atStart => exact ⟨0, rfl, by omega, HS6, (But.refl _ _).drewN _⟩
                  case round =>
                    obtain ⟨k, rfl, hk, hcl, hbut⟩ := hrel
                    by_cases hlt : k < 8
                    · have hll : (O.take k ++ ([c0, c1, c2, c3, c4, c5, c6, c7] : List Int).drop k).length = 8 := by simp; omega
                      have gf := hcl.out.frozen (1 + k)
                      have gc := stV_chain hcl.out k (by omega)
                      generalize (O.take k ++ ([c0, c1, c2, c3, c4, c5, c6, c7] : List Int).drop k)[k] = old at gc
                      obtain ⟨x, y, ix, hx, hy⟩ : ∃ x y : Int, (∀ w, (Instr.index 118 (.agg #[.int .u32 r.a, .int .u32 r.b, .int .u32 r.c, .int .u32 r.d, .int .u32 r.e, .int .u32 r.f, .int .u32 r.g, .int .u32 r.h]) (.int .i64 (k : Int))).run Tryz.prog w = .ok (.int .u32 y) w) ∧ wr.cell? ⟨bv, k, none⟩ = some (.int .u32 x) ∧ O.getD k 0 = (x + y) % 4294967296 := by
                        have hV := (hbut.out.other HV5.out (by omega)).cell k (by simp; omega)
                        rw [HO.out trivial]
                        have hq : k = 0 ∨ k = 1 ∨ k = 2 ∨ k = 3 ∨ k = 4 ∨ k = 5 ∨ k = 6 ∨ k = 7 := by omega
                        rcases hq with rfl | rfl | rfl | rfl | rfl | rfl | rfl | rfl
                        all_goals exact ⟨_, _, fun w => idx_agg 118 117 8 .u32 _ _ _ w (by kernel_rfl) (by kernel_rfl) (by kernel_rfl) (by decide) rfl, hV, rfl⟩
                      have Hy : Hid (True → O.getD k 0 = (x + y) % 4294967296) := fun _ => hy
                      clear hy HS6
                      unfold V at gc
                      go_wp2
                      refine wp_region_tail 11 (by kernel_rfl) (by kernel_rfl) ?_
                      simp only [List.take_succ_cons, List.take_zero, List.drop_succ_cons, List.drop_zero]
                      repeat (first | go_big_quiet_skip | (go_big_quiet_want; go_big_quiet_op; go_big_quiet_on))
                      refine wpQuiet_nil ?_
                      go_wp2
                      refine ⟨⟨k + 1, by go_num, by omega, ?_, (hbut.out.drewN 1).set _ _⟩, by simp [intOf]; omega⟩
                      have h1 := hcl.out.set (1 + k) (V ((x + y) % 4294967296))
                      rw [stV_setchain _ _ _ _ _ _ (by omega), ← Hy.out trivial, mix_set _ _ _ (by omega) (by simp; omega)] at h1
                      rw [← Hy.out trivial]
                      exact h1
                    · obtain rfl : k = 8 := by omega
                      go_wp2
                      go_end0
                      refine ⟨rfl, ?_, (But.of_below (hbw ▸ HB5.out)).trans hbut.out⟩
                      have h1 := hcl.out
                      rw [List.take_of_length_le (by omega), List.drop_of_length_le (by simp), List.append_nil] at h1
                      rw [HO0.out trivial]
                      exact h1
end Go.Proofs.YtdhfjhdlimmjhaaGreatDoor.Sha