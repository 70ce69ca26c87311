import Derived.Test.YtgkbbcoagnilgabDoorLay
import Derived.Test.YtgkbbcoagnilgabDoorExact
namespace Go.Proofs.YtgkbbcoagnilgabDoor
open Go.RowKit

/-- All that lay answers. -/
def LayA (z : List UInt8) (P : Int) (xs : List Nat) : Prop := xs.length = 10 ∧ smallL xs ∧ ∃ q r, wv 4294967296 0 xs 10 = stk q r ∧ vU z P * 2 ^ 160 = vD z P * q + r ∧ r < vD z P

theorem or_small (x : Nat) (h : x < 4294967296) : x ||| 1 < 4294967296 := Nat.or_lt_two_pow (n := 32) h (by decide)

theorem Fx.but {W W' : World} {b x : Nat} {xs : List Nat} (h : Fx W b xs) (hB : But W W' x) (hne : b ≠ x) : Fx W' b xs := by
  obtain ⟨t, ht⟩ := h
  exact ⟨t, (hB.2.2.2.2 b hne).trans ht⟩

theorem below_of_but {w w' : World} {b B : Nat} (h : But w w' b) (hb : B ≤ b) : Below B w w' := ⟨h.1, h.2.1, h.2.2.1, Nat.le_of_eq h.2.2.2.1.symm, fun k hk => h.2.2.2.2 k (by omega)⟩

/-- The three blocks that lay begins with. -/
def LayW (w : World) (z : List UInt8) : World := ((w.alloc (.cells #[.string ⟨z.toArray⟩] 9)).alloc (.cells #[Value.int IntKind.u32 0, Value.int IntKind.u32 0, Value.int IntKind.u32 0, Value.int IntKind.u32 0, Value.int IntKind.u32 0, Value.int IntKind.u32 0, Value.int IntKind.u32 0, Value.int IntKind.u32 0, Value.int IntKind.u32 0, Value.int IntKind.u32 0] 69)).alloc (.cells #[Value.int IntKind.u32 0, Value.int IntKind.u32 0, Value.int IntKind.u32 0, Value.int IntKind.u32 0, Value.int IntKind.u32 0, Value.int IntKind.u32 0, Value.int IntKind.u32 0, Value.int IntKind.u32 0, Value.int IntKind.u32 0, Value.int IntKind.u32 0] 69)

theorem layW_size (w : World) (z : List UInt8) : (LayW w z).heap.size = w.heap.size + 3 := by
  unfold LayW; rw [World.size_alloc, World.size_alloc, World.size_alloc]
theorem layW_F (w : World) (z : List UInt8) : Fx (LayW w z) (w.heap.size + 1 + 1) Z10 := ⟨69, by
  have e : w.heap.size + 1 + 1 = ((w.alloc (.cells #[.string ⟨z.toArray⟩] 9)).alloc (.cells #[Value.int IntKind.u32 0, Value.int IntKind.u32 0, Value.int IntKind.u32 0, Value.int IntKind.u32 0, Value.int IntKind.u32 0, Value.int IntKind.u32 0, Value.int IntKind.u32 0, Value.int IntKind.u32 0, Value.int IntKind.u32 0, Value.int IntKind.u32 0] 69)).heap.size := by rw [World.size_alloc, World.size_alloc]
  rw [e]; exact heap_alloc_new _ _⟩
theorem layW_R (w : World) (z : List UInt8) : Fx (LayW w z) (w.heap.size + 1) Z10 := ⟨69, by
  have e : w.heap.size + 1 = (w.alloc (.cells #[.string ⟨z.toArray⟩] 9)).heap.size := by rw [World.size_alloc]
  rw [LayW, Below.heap_alloc _ _ _ (by rw [World.size_alloc, World.size_alloc]; omega), e]; exact heap_alloc_new _ _⟩
theorem layW_X (w : World) (z : List UInt8) : (LayW w z).cell? ⟨w.heap.size, 0, none⟩ = some (.string ⟨z.toArray⟩) := by
  have h : (LayW w z).heap[w.heap.size]? = some (.cells #[.string ⟨z.toArray⟩] 9) := by
    rw [LayW, Below.heap_alloc _ _ _ (by rw [World.size_alloc, World.size_alloc]; omega), Below.heap_alloc _ _ _ (by rw [World.size_alloc]; omega)]
    exact heap_alloc_new _ _
  unfold World.cell?
  simp [h]
theorem layW_below (w : World) (z : List UInt8) : Below w.heap.size w (LayW w z) := by
  unfold LayW
  exact (((Below.refl _ w).alloc (Nat.le_refl _) _).alloc (by rw [World.size_alloc]; omega) _).alloc (by rw [World.size_alloc, World.size_alloc]; omega) _

set_option maxRecDepth 10000 in
set_option maxHeartbeats 4000000 in
theorem lay_any (z : List UInt8) (P : Int) (w : World) (hz : allD z) (hlen : z.length ≤ 1099511627776) (hP1 : -45 ≤ P) (hP2 : P ≤ 39) :
    Calls Tryd.prog 37 #[.string ⟨z.toArray⟩, .int .i64 P] w fun e w' => ∃ xs, e = .returned (.agg (xs.map U).toArray) ∧ LayA z P xs ∧ Below w.heap.size w w' := by
  obtain ⟨W1, hW1⟩ : ∃ W1, W1 = LayW w z := ⟨_, rfl⟩
  have Hz : Hid (allD z) := hz
  have HW1 : Hid (W1 = LayW w z) := hW1
  clear hz hW1
  go_enter Tryd.func37, Tryd.ntmps37
  go_wp2
  have eW : ((w.alloc (.cells #[.string ⟨z.toArray⟩] 9)).alloc (.cells #[Value.int IntKind.u32 0, Value.int IntKind.u32 0, Value.int IntKind.u32 0, Value.int IntKind.u32 0, Value.int IntKind.u32 0, Value.int IntKind.u32 0, Value.int IntKind.u32 0, Value.int IntKind.u32 0, Value.int IntKind.u32 0, Value.int IntKind.u32 0] 69)).alloc (.cells #[Value.int IntKind.u32 0, Value.int IntKind.u32 0, Value.int IntKind.u32 0, Value.int IntKind.u32 0, Value.int IntKind.u32 0, Value.int IntKind.u32 0, Value.int IntKind.u32 0, Value.int IntKind.u32 0, Value.int IntKind.u32 0, Value.int IntKind.u32 0] 69) = W1 := HW1.out.symm
  rw [eW]
  clear eW
  obtain ⟨bF, hbF⟩ : ∃ bF, bF = w.heap.size + 1 + 1 := ⟨_, rfl⟩
  obtain ⟨bR, hbR⟩ : ∃ bR, bR = w.heap.size + 1 := ⟨_, rfl⟩
  obtain ⟨bX, hbX⟩ : ∃ bX, bX = w.heap.size := ⟨_, rfl⟩
  have HF1 : Hid (Fx W1 bF Z10) := by rw [HW1.out, hbF]; exact layW_F w z
  have HR1 : Hid (Fx W1 bR Z10) := by rw [HW1.out, hbR]; exact layW_R w z
  have HX1 : Hid (W1.cell? ⟨bX, 0, none⟩ = some (.string ⟨z.toArray⟩)) := by rw [HW1.out, hbX]; exact layW_X w z
  have HB1 : Hid (Below bX w W1) := by rw [HW1.out, hbX]; exact layW_below w z
  have hsz : W1.heap.size = w.heap.size + 3 := by rw [HW1.out]; exact layW_size w z
  have hs1 : bF < W1.heap.size := by omega
  have hneR : bR ≠ bF := by omega
  have hneX : bX ≠ bF := by omega
  have hleF : bX ≤ bF := by omega
  have hleR : bX ≤ bR := by omega
  rw [← hbF, ← hbR, ← hbX]
  have HbX : Hid (bX = w.heap.size) := hbX
  have HneR : Hid (bR ≠ bF) := hneR
  have HneX : Hid (bX ≠ bF) := hneX
  clear hbF hbR hbX hsz hneR hneX
  go_loopw [12, 7] (fun s12 _ wr => ∃ (j : Nat) (ys : List Nat), s12 = .int .i64 (j : Int) ∧ j ≤ P.toNat ∧ Hid (Fx wr bF ys) ∧ ys.length ≤ 10 ∧ 10 ≤ ys.length ∧ Hid (smallL ys) ∧ Hid (But W1 wr bF) ∧ Hid (WhI z j ys)) (fun s _ _ => 40 - (intOf s).toNat)
  case atStart => exact ⟨0, Z10, rfl, Nat.zero_le _, HF1, by decide, by decide, by show smallL _; exact fun x hx => (by rw [(List.mem_replicate.1 hx).2]; decide), But.refl _ _, WhI.start z⟩
  case round =>
    obtain ⟨j, ys, rfl, hj, HF, hy1, hy2, Hs, HB, HI⟩ := hrel
    have hs2 : bF < wr.heap.size := by rw [HB.out.2.2.2.1]; exact hs1
    have hcX : wr.cell? ⟨bX, 0, none⟩ = some (.string ⟨z.toArray⟩) := by rw [cell_but HB.out ⟨bX, 0, none⟩ HneX.out]; exact HX1.out
    have Hc : Hid (wr.cell? ⟨bX, 0, none⟩ = some (.string ⟨z.toArray⟩)) := hcX
    by_cases hlt : (j : Int) < P
    · have hd9 := dz_le z Hz.out j
      have Hdi : Hid (di z (j : Int) = dz z j) := by unfold di; rw [if_pos (by omega), Int.toNat_natCast]; exact rfl
      have Hdg : Hid (∀ W : World, W.cell? ⟨bX, 0, none⟩ = some (.string ⟨z.toArray⟩) → Calls Tryd.prog 69 #[.int .i64 (j : Int), .pointer (some ⟨bX, 0, none⟩)] W fun e w' => e = .returned (.int .u32 (dz z j : Int)) ∧ w' = W) := fun W h => by rw [← Hdi.out]; exact digitAt_any z bX j W Hz.out hlen h
      have Htm : Hid (∀ W, Fx W bF ys → Calls Tryd.prog 60 #[.slice (some ⟨bF, 5, none⟩) 5 5, .int .u32 (dz z j : Int)] W fun e w' => e = .returned (.int .u32 ((tmF 4294967296 5 0 5 ys (dz z j)).2 : Int)) ∧ Fx w' bF (tmF 4294967296 5 0 5 ys (dz z j)).1 ∧ But W w' bF) := fun W h => timesTen_any bF 5 5 5 (dz z j) ys W h (by omega) (by omega) Hs.out (by omega)
      have HI2 : Hid (WhI z (j + 1) (tmF 4294967296 5 0 5 ys (dz z j)).1) := WhI.step HI.out (by omega) Hz.out (by omega)
      have Hs2 : Hid (smallL (tmF 4294967296 5 0 5 ys (dz z j)).1) := tmF_small 5 5 0 ys (dz z j) Hs.out
      have hl2 := tmF_len 4294967296 5 5 0 ys (dz z j)
      generalize (tmF 4294967296 5 0 5 ys (dz z j)).2 = cr at Htm
      generalize (tmF 4294967296 5 0 5 ys (dz z j)).1 = zs at Htm HI2 Hs2 hl2
      generalize dz z j = d at hd9 Hdi Hdg Htm
      have hzl1 : zs.length ≤ 10 := by omega
      have hzl2 : 10 ≤ zs.length := by omega
      clear hl2 hcX
      go_wp2_with fail
      refine (whole_fx bF _ hs2).mono ?_
      rintro e w4 ⟨rfl, rfl⟩
      go_wp2_with fail
      refine (Hdg.out _ Hc.out).mono ?_
      rintro e w4 ⟨rfl, rfl⟩
      go_wp2_with fail
      refine (Htm.out _ HF.out).mono ?_
      rintro e w4 ⟨rfl, hF4, hB4⟩
      have HF4 : Hid (Fx w4 bF zs) := hF4
      have HB4 : Hid (But W1 w4 bF) := HB.out.trans hB4
      clear hF4 hB4
      go_wp2
      go_roundw
      case rel => exact ⟨j + 1, zs, by go_num, by omega, HF4, hzl1, hzl2, Hs2, HB4, HI2⟩
      case measure => simp [intOf]; omega
    · have Hj : Hid (j = P.toNat) := by show _ = _; omega
      have HI2 : Hid (LwI z P.toNat 0 0 ys) := by rw [← Hj.out]; exact LwI.start HI.out
      clear HI
      go_wp2
      go_loopw [9, 8] (fun s9 s8 wq => ∃ (m lost : Nat) (zs : List Nat), Value.int .i64 ((z.length : Int) - 1 - m) = s9 ∧ Value.int .u32 (lost : Int) = s8 ∧ lost < 16 ∧ m ≤ ((z.length : Int) - P).toNat ∧ Hid (Fx wq bF zs) ∧ zs.length ≤ 10 ∧ 10 ≤ zs.length ∧ Hid (smallL zs) ∧ Hid (But W1 wq bF) ∧ Hid (LwI z P.toNat m lost zs)) (fun s _ _ => (intOf s + 50).toNat)
      case atStart => exact ⟨0, 0, ys, by go_num, rfl, by decide, Nat.zero_le _, HF, hy1, hy2, Hs, HB, HI2⟩
      case round =>
        obtain ⟨m, lost, zs, hv9, hv8, hlost, hm, HFq, hz1, hz2, Hsq, HBq, HIq⟩ := hrel
        have hv9' := hv9.symm
        have hv8' := hv8.symm
        clear hv9 hv8
        subst hv9' hv8'
        have hs3 : bF < wr.heap.size := by rw [HBq.out.2.2.2.1]; exact hs1
        have Hcq : Hid (wr.cell? ⟨bX, 0, none⟩ = some (.string ⟨z.toArray⟩)) := by rw [cell_but HBq.out ⟨bX, 0, none⟩ HneX.out]; exact HX1
        clear hcX Hc HF HB hs2 Hs hy1 hy2 HI2
        by_cases hge : P ≤ (z.length : Int) - 1 - m
        · have hd9 := di_le z Hz.out ((z.length : Int) - 1 - m)
          have Hdd : Hid (di z ((z.length : Int) - 1 - m) = if m < z.length then dz z (z.length - 1 - m) else 0) := by
            show _ = _
            unfold di
            by_cases hmn : m < z.length
            · rw [if_pos (by omega), if_pos hmn]; congr 1; omega
            · rw [if_neg (by omega), if_neg hmn]
          have Hdg : Hid (∀ W : World, W.cell? ⟨bX, 0, none⟩ = some (.string ⟨z.toArray⟩) → Calls Tryd.prog 69 #[.int .i64 ((z.length : Int) - 1 - m), .pointer (some ⟨bX, 0, none⟩)] W fun e w' => e = .returned (.int .u32 (di z ((z.length : Int) - 1 - m) : Int)) ∧ w' = W) := fun W h => digitAt_any z bX _ W Hz.out hlen h
          generalize di z ((z.length : Int) - 1 - m) = d at hd9 Hdd Hdg
          have Hov : Hid (∀ W, Fx W bF zs → Calls Tryd.prog 58 #[.slice (some ⟨bF, 0, none⟩) 5 10, .int .u32 (d : Int)] W fun e w' => e = .returned (.int .u32 ((ovF 4294967296 0 5 zs d).2 : Int)) ∧ Fx w' bF (ovF 4294967296 0 5 zs d).1 ∧ But W w' bF) := fun W h => overTen_any bF 0 5 10 d zs W h (by omega) (by omega) Hsq.out (by omega)
          have HI3 : Hid (LwI z P.toNat (m + 1) (lost ||| (ovF 4294967296 0 5 zs d).2) (ovF 4294967296 0 5 zs d).1) := LwI.step HIq.out (by omega) (by omega) Hdd.out
          have hr10 := ovF_rem 4294967296 0 5 zs d (by omega)
          have Hs3 : Hid (smallL (ovF 4294967296 0 5 zs d).1) := ovF_small 0 5 zs d Hsq.out (by omega) (by omega)
          have hl3 := ovF_len 4294967296 0 5 zs d
          generalize (ovF 4294967296 0 5 zs d).2 = r at Hov HI3 hr10
          generalize (ovF 4294967296 0 5 zs d).1 = us at Hov HI3 Hs3 hl3
          have hu1 : us.length ≤ 10 := by omega
          have hu2 : 10 ≤ us.length := by omega
          have hor : bits .or .u32 (lost : Int) (r : Int) = ((lost ||| r : Nat) : Int) := u32_or_nat lost r (by omega) (by omega)
          have hl16 : lost ||| r < 16 := Nat.or_lt_two_pow (n := 4) hlost (by omega)
          clear hl3 Hdd HIq
          generalize lost ||| r = lost2 at hor hl16 HI3
          go_wp2_with fail
          refine (fraction_fx bF _ hs3).mono ?_
          rintro e w4 ⟨rfl, rfl⟩
          go_wp2_with fail
          refine (Hdg.out _ Hcq.out).mono ?_
          rintro e w4 ⟨rfl, rfl⟩
          go_wp2_with fail
          refine (Hov.out _ HFq.out).mono ?_
          rintro e w4 ⟨rfl, hF4, hB4⟩
          have HF4 : Hid (Fx w4 bF us) := hF4
          have HB4 : Hid (But W1 w4 bF) := HBq.out.trans hB4
          clear hF4 hB4
          go_wp2
          go_roundw
          case rel => exact ⟨m + 1, lost2, us, by go_num, rfl, hl16, by omega, HF4, hu1, hu2, Hs3, HB4, HI3⟩
          case measure => simp [intOf]; omega
        · have Hm : Hid (m = ((z.length : Int) - P).toNat) := by show _ = _; omega
          have Hend : Hid (∃ q r, wv 4294967296 0 (if lost = 0 then zs else zs.set 0 (zs.getD 0 0 ||| 1)) 10 = stk q r ∧ vU z P * 2 ^ 160 = vD z P * q + r ∧ r < vD z P) := lay_end HIq.out Hm.out (by omega)
          have HFRe : Hid (Fx wr bR Z10) := HR1.out.but HBq.out HneR.out
          have HBel : Hid (Below w.heap.size w wr) := by rw [← HbX.out]; exact HB1.out.trans (below_of_but HBq.out hleF)
          have HbR : Hid (w.heap.size ≤ bR) := by rw [← HbX.out]; exact hleR
          have hbFR : ¬ bF = bR := fun e => HneR.out e.symm
          have hbRF : ¬ bR = bF := HneR.out
          obtain ⟨x0, x1, x2, x3, x4, x5, x6, x7, x8, x9, hzs⟩ := ten_of (xs := zs) (by omega)
          subst hzs
          have HFe : Hid (Fx wr bF [x0, x1, x2, x3, x4, x5, x6, x7, x8, x9]) := HFq
          clear HIq HFq HBq
          have g0 : wr.cell? ⟨bF, 0, none⟩ = some (.int .u32 (x0 : Int)) := HFe.out.cell 0 (by simp)
          have g1 : wr.cell? ⟨bF, 1, none⟩ = some (.int .u32 (x1 : Int)) := HFe.out.cell 1 (by simp)
          have g2 : wr.cell? ⟨bF, 2, none⟩ = some (.int .u32 (x2 : Int)) := HFe.out.cell 2 (by simp)
          have g3 : wr.cell? ⟨bF, 3, none⟩ = some (.int .u32 (x3 : Int)) := HFe.out.cell 3 (by simp)
          have g4 : wr.cell? ⟨bF, 4, none⟩ = some (.int .u32 (x4 : Int)) := HFe.out.cell 4 (by simp)
          have g5 : wr.cell? ⟨bF, 5, none⟩ = some (.int .u32 (x5 : Int)) := HFe.out.cell 5 (by simp)
          have g6 : wr.cell? ⟨bF, 6, none⟩ = some (.int .u32 (x6 : Int)) := HFe.out.cell 6 (by simp)
          have g7 : wr.cell? ⟨bF, 7, none⟩ = some (.int .u32 (x7 : Int)) := HFe.out.cell 7 (by simp)
          have g8 : wr.cell? ⟨bF, 8, none⟩ = some (.int .u32 (x8 : Int)) := HFe.out.cell 8 (by simp)
          have g9 : wr.cell? ⟨bF, 9, none⟩ = some (.int .u32 (x9 : Int)) := HFe.out.cell 9 (by simp)
          have k0 : wr.cell? ⟨bR, 0, none⟩ = some (.int .u32 (0 : Int)) := HFRe.out.cell 0 (by decide)
          have m0 : wr.frozen? ⟨bR, 0, none⟩ = false := HFRe.out.frozen 0
          have k1 : wr.cell? ⟨bR, 1, none⟩ = some (.int .u32 (0 : Int)) := HFRe.out.cell 1 (by decide)
          have m1 : wr.frozen? ⟨bR, 1, none⟩ = false := HFRe.out.frozen 1
          have k2 : wr.cell? ⟨bR, 2, none⟩ = some (.int .u32 (0 : Int)) := HFRe.out.cell 2 (by decide)
          have m2 : wr.frozen? ⟨bR, 2, none⟩ = false := HFRe.out.frozen 2
          have k3 : wr.cell? ⟨bR, 3, none⟩ = some (.int .u32 (0 : Int)) := HFRe.out.cell 3 (by decide)
          have m3 : wr.frozen? ⟨bR, 3, none⟩ = false := HFRe.out.frozen 3
          have k4 : wr.cell? ⟨bR, 4, none⟩ = some (.int .u32 (0 : Int)) := HFRe.out.cell 4 (by decide)
          have m4 : wr.frozen? ⟨bR, 4, none⟩ = false := HFRe.out.frozen 4
          have k5 : wr.cell? ⟨bR, 5, none⟩ = some (.int .u32 (0 : Int)) := HFRe.out.cell 5 (by decide)
          have m5 : wr.frozen? ⟨bR, 5, none⟩ = false := HFRe.out.frozen 5
          have k6 : wr.cell? ⟨bR, 6, none⟩ = some (.int .u32 (0 : Int)) := HFRe.out.cell 6 (by decide)
          have m6 : wr.frozen? ⟨bR, 6, none⟩ = false := HFRe.out.frozen 6
          have k7 : wr.cell? ⟨bR, 7, none⟩ = some (.int .u32 (0 : Int)) := HFRe.out.cell 7 (by decide)
          have m7 : wr.frozen? ⟨bR, 7, none⟩ = false := HFRe.out.frozen 7
          have k8 : wr.cell? ⟨bR, 8, none⟩ = some (.int .u32 (0 : Int)) := HFRe.out.cell 8 (by decide)
          have m8 : wr.frozen? ⟨bR, 8, none⟩ = false := HFRe.out.frozen 8
          have k9 : wr.cell? ⟨bR, 9, none⟩ = some (.int .u32 (0 : Int)) := HFRe.out.cell 9 (by decide)
          have m9 : wr.frozen? ⟨bR, 9, none⟩ = false := HFRe.out.frozen 9
          by_cases h0 : lost = 0
          · have Hend2 : Hid (∃ q r, wv 4294967296 0 [x0, x1, x2, x3, x4, x5, x6, x7, x8, x9] 10 = stk q r ∧ vU z P * 2 ^ 160 = vD z P * q + r ∧ r < vD z P) := by have h := Hend.out; rw [if_pos h0] at h; exact h
            subst h0
            clear Hend
            go_wp2
            (try simp only [Exit.inBlock, Exit.then])
            refine bodyPost_ret (v := .agg #[U x0, U x1, U x2, U x3, U x4, U x5, U x6, U x7, U x8, U x9]) ?_ rfl ⟨[x0, x1, x2, x3, x4, x5, x6, x7, x8, x9], rfl, ⟨rfl, Hsq.out, Hend2.out⟩, ?_⟩
            · rw [results_cell rfl]; go_simp; simp [U]
            · have hB := HBel.out
              have hbR' := HbR.out
              (repeat' (first | with_reducible assumption | with_reducible exact Below.refl _ _ | with_reducible exact Nat.le_refl _ | with_reducible refine Below.setCell ?_ ?_ _ | with_reducible refine Below.alloc ?_ ?_ _ | with_reducible apply Below.drew | with_reducible apply below_drewN | omega | (simp; done) | (simp; omega)))
          · have Hend2 : Hid (∃ q r, wv 4294967296 0 [x0 ||| 1, x1, x2, x3, x4, x5, x6, x7, x8, x9] 10 = stk q r ∧ vU z P * 2 ^ 160 = vD z P * q + r ∧ r < vD z P) := by have h := Hend.out; rw [if_neg h0] at h; exact h
            have hx0 : x0 < 4294967296 := Hsq.out x0 (by simp)
            have Hs3 : Hid (smallL [x0 ||| 1, x1, x2, x3, x4, x5, x6, x7, x8, x9]) := smallL_set Hsq.out 0 (x0 ||| 1) (or_small x0 hx0)
            have hor : bits .or .u32 (x0 : Int) 1 = ((x0 ||| 1 : Nat) : Int) := u32_or_nat x0 1 hx0 (by decide)
            have hq0 : ((lost : Int) != 0) = true := by simp; omega
            have hf0 : wr.frozen? ⟨bF, 0, none⟩ = false := HFe.out.frozen 0
            generalize x0 ||| 1 = y0 at Hend2 Hs3 hor
            have HbF : Hid (w.heap.size ≤ bF) := by rw [← HbX.out]; exact hleF
            clear Hend h0 hx0
            go_wp2
            (try simp only [Exit.inBlock, Exit.then])
            refine bodyPost_ret (v := .agg #[U y0, U x1, U x2, U x3, U x4, U x5, U x6, U x7, U x8, U x9]) ?_ rfl ⟨[y0, x1, x2, x3, x4, x5, x6, x7, x8, x9], rfl, ⟨rfl, Hs3.out, Hend2.out⟩, ?_⟩
            · rw [results_cell rfl]; go_simp; simp [U]
            · have hB := HBel.out
              have hbR' := HbR.out
              have hbF' := HbF.out
              (repeat' (first | with_reducible assumption | with_reducible exact Below.refl _ _ | with_reducible exact Nat.le_refl _ | with_reducible refine Below.setCell ?_ ?_ _ | with_reducible refine Below.alloc ?_ ?_ _ | with_reducible apply Below.drew | with_reducible apply below_drewN | omega | (simp; done) | (simp; omega)))

end Go.Proofs.YtgkbbcoagnilgabDoor
