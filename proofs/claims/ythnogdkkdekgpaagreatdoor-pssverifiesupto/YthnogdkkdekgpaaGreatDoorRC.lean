import Derived.Test.YthnogdkkdekgpaaGreatDoorRB
namespace Go.Proofs.YthnogdkkdekgpaaGreatDoor
open Go.RowKit

theorem mxL_gen (l ms : List UInt8) (k : Nat) (r : List Value) (w : World) (g : Nat) (h : ms.length = l.length) (hk : k < l.length) (hb : Bl 5 w g ((mxL l ms k).map B ++ r)) : Bl 5 (w.setCell ⟨g, k, none⟩ (B (l[k] ^^^ ms[k]))) g ((mxL l ms (k + 1)).map B ++ r) := by
  have := hb.set k (B (l[k] ^^^ ms[k]))
  rw [List.set_append_left _ _ (by rw [List.length_map, mxL_length l ms k h (by omega)]; exact hk), ← List.map_set, mxL_set l ms k h hk _ rfl] at this
  exact this

set_option maxRecDepth 100000 in
set_option maxHeartbeats 8000000 in
theorem rpencode_any (h : Int) (a1 a2 : Option Addr) (c1 c2 : Nat) (d s : List UInt8) (bits : Int) (w : World) (R : Sha.Rt w) (r1 : Rd w a1 d) (r2 : Rd w a2 s) (n1 : a1 = none → d.length = 0 ∧ c1 = 0) (n2 : a2 = none → s.length = 0 ∧ c2 = 0) (l1 : d.length ≤ 10000000) (l2 : s.length ≤ 10000000) :
    Calls Tryz.prog 61 #[.int .i64 h, .slice a1 d.length c1, .slice a2 s.length c2, .int .i64 bits] w fun e w' => ∃ r, e = .returned (.tuple #[r, .int .i64 (pcode h d.length s.length bits)]) ∧ OBb w.heap.size w w' r (pencV h d s bits) := by
  have CZ := Sha.rsize_any h w
  by_cases hh : isHB h = true
  case neg =>
    have hh2 : isHB h = false := by simpa using hh
    have he : pcode h d.length s.length bits = 111 := by unfold pcode; rw [if_pos hh2]
    have Hv : Hid (pencV h d s bits = []) := by show _ = _; unfold pencV; rw [he, if_neg (by decide)]
    rw [he]
    have C0 : Calls Tryz.prog 19 #[.int .i64 h] w fun e w' => e = .returned (.int .i64 0) ∧ w' = w := by rw [siz_zero hh2] at CZ; exact CZ
    clear hh hh2 he CZ R r1 r2 n1 n2
    go_enter Tryz.func61, Tryz.ntmps61
    go_wp2_with fail
    refine C0.mono ?_
    rintro e w' ⟨rfl, rfl⟩
    clear C0
    go_wp2
    go_ret2
    rw [Hv.out]
    exact ⟨_, rfl, OBb.nil _⟩
  have hs0 := isHB_pos hh
  have hs64 := siz_le64 h
  have dz : ((Sha.siz h : Int) == 0) = false := by rw [beq_eq_false_iff_ne]; omega
  by_cases h1 : bits < 0
  case pos =>
    have d1 : decide (bits < 0) = true := decide_eq_true h1
    have he : pcode h d.length s.length bits = 10 := by unfold pcode; rw [if_neg (by rw [hh]; simp), if_pos (.inl h1)]
    have Hv : Hid (pencV h d s bits = []) := by show _ = _; unfold pencV; rw [he, if_neg (by decide)]
    rw [he]
    generalize Sha.siz h = S at *
    clear hh he R r1 r2 n1 n2 h1
    go_enter Tryz.func61, Tryz.ntmps61
    go_wp2_with fail
    refine CZ.mono ?_
    rintro e w' ⟨rfl, rfl⟩
    clear CZ
    go_wp2
    go_ret2
    rw [Hv.out]
    exact ⟨_, rfl, OBb.nil _⟩
  have d1 : decide (bits < 0) = false := decide_eq_false h1
  by_cases h2 : 65536 < bits
  case pos =>
    have d2 : decide (65536 < bits) = true := decide_eq_true h2
    have d2' : decide (bits > 65536) = true := decide_eq_true h2
    have he : pcode h d.length s.length bits = 10 := by unfold pcode; rw [if_neg (by rw [hh]; simp), if_pos (.inr h2)]
    have Hv : Hid (pencV h d s bits = []) := by show _ = _; unfold pencV; rw [he, if_neg (by decide)]
    rw [he]
    generalize Sha.siz h = S at *
    clear hh he R r1 r2 n1 n2 h1 h2
    go_enter Tryz.func61, Tryz.ntmps61
    go_wp2_with fail
    refine CZ.mono ?_
    rintro e w' ⟨rfl, rfl⟩
    clear CZ
    go_wp2
    go_ret2
    rw [Hv.out]
    exact ⟨_, rfl, OBb.nil _⟩
  have d2 : decide (65536 < bits) = false := decide_eq_false h2
  have d2' : decide (bits > 65536) = false := decide_eq_false h2
  obtain ⟨b, rfl⟩ : ∃ b : Nat, bits = (b : Int) := ⟨bits.toNat, by omega⟩
  have hb65 : b ≤ 65536 := by omega
  obtain ⟨S, HS⟩ : ∃ S, Hid (Sha.siz h = S) := ⟨_, rfl⟩
  obtain ⟨W, HW⟩ : ∃ W, Hid (wid b = W) := ⟨_, rfl⟩
  obtain ⟨b7, Hb7⟩ : ∃ x, Hid (b + 7 = x) := ⟨_, rfl⟩
  have hW1 : 8 * W ≤ b + 7 ∧ b ≤ 8 * W := by rw [← HW.out]; unfold wid; omega
  have hWb : W ≤ 8192 := by omega
  have hb7 : b7 ≤ 66000 := by rw [← Hb7.out]; omega
  have e1 : (b : Int) + 7 = (b7 : Int) := by rw [← Hb7.out]; omega
  have e2 : Int.tdiv (b7 : Int) 8 = (W : Int) := by rw [Int.tdiv_eq_ediv_of_nonneg (by omega), ← HW.out, ← Hb7.out]; unfold wid; omega
  have e3 : (b7 : Int) / 8 = (W : Int) := by rw [← HW.out, ← Hb7.out]; unfold wid; omega
  rw [HS.out] at CZ hs0 hs64 dz
  have hpc : pcode h d.length s.length (b : Int) = if d.length ≠ S ∨ W < S + s.length + 2 then 90 else 0 := by
    unfold pcode; rw [if_neg (by rw [hh]; simp), if_neg (by omega), Int.toNat_natCast, HS.out, HW.out]
  clear h1 h2
  by_cases hd : d.length = S
  case neg =>
    have d3 : ((d.length : Int) != (S : Int)) = true := by simp; omega
    have he : pcode h d.length s.length (b : Int) = 90 := by rw [hpc, if_pos (.inl hd)]
    have Hv : Hid (pencV h d s (b : Int) = []) := by show _ = _; unfold pencV; rw [he, if_neg (by decide)]
    rw [he]
    clear hh he R r1 r2 n1 n2 hd hpc hW1
    go_enter Tryz.func61, Tryz.ntmps61
    go_wp2_with fail
    refine CZ.mono ?_
    rintro e w' ⟨rfl, rfl⟩
    clear CZ
    go_wp2
    go_ret2
    rw [Hv.out]
    exact ⟨_, rfl, OBb.nil _⟩
  have d3 : ((d.length : Int) != (S : Int)) = false := by rw [hd]; simp
  by_cases hwl : W < S + s.length + 2
  case pos =>
    have d4 : decide ((W : Int) < (S : Int) + (s.length : Int) + 2) = true := decide_eq_true (by omega)
    have he : pcode h d.length s.length (b : Int) = 90 := by rw [hpc, if_pos (.inr hwl)]
    have Hv : Hid (pencV h d s (b : Int) = []) := by show _ = _; unfold pencV; rw [he, if_neg (by decide)]
    rw [he]
    clear hh he R r1 r2 n1 n2 hd hpc hW1 hwl
    go_enter Tryz.func61, Tryz.ntmps61
    go_wp2_with fail
    refine CZ.mono ?_
    rintro e w' ⟨rfl, rfl⟩
    clear CZ
    go_wp2
    go_ret2
    rw [Hv.out]
    exact ⟨_, rfl, OBb.nil _⟩
  have d4 : decide ((W : Int) < (S : Int) + (s.length : Int) + 2) = false := decide_eq_false (by omega)
  have he : pcode h d.length s.length (b : Int) = 0 := by rw [hpc, if_neg (by omega)]
  have Hv : Hid (pencV h d s (b : Int) = encF h d s b) := by show _ = _; unfold pencV; rw [he, if_pos rfl, Int.toNat_natCast]
  rw [he]
  have CC := rsecond_any h a1 a2 c1 c2 d s w R r1 r2 n1 n2 l1 l2
  rw [HS.out] at CC
  obtain ⟨q, eq1⟩ : ∃ q : Nat, 8 * W - b = q := ⟨_, rfl⟩
  have Hq : Hid (8 * W - b = q) := eq1
  have hq7 : q ≤ 7 := by omega
  obtain ⟨L, eL⟩ : ∃ L : Nat, (W : Int) - (S : Int) - 1 = (L : Int) := ⟨W - S - 1, by omega⟩
  obtain ⟨A, eA⟩ : ∃ A : Nat, (L : Int) - (s.length : Int) = (A : Int) := ⟨L - s.length, by omega⟩
  obtain ⟨Z, eZ⟩ : ∃ Z : Nat, (A : Int) - 1 = (Z : Int) := ⟨A - 1, by omega⟩
  have HX : Hid (Z + 1 = A ∧ A + s.length = L ∧ L + S + 1 = W) := ⟨by omega, by omega, by omega⟩
  have hLb : 1 ≤ L ∧ L ≤ 8192 := by omega
  have hZb : Z ≤ 8192 := by omega
  have HR : Hid (Sha.Rt w) := R
  have H2 : Hid (Rd w a2 s) := r2
  have HH : Hid (isHB h = true) := hh
  have HTop : Hid (∀ W', Calls Tryz.prog 83 #[.int .i64 (b : Int)] W' fun e w' => e = .returned (.int .i64 (q : Int)) ∧ w' = W') := fun W' => by
    have := rtop_any b W' (by omega)
    rwa [HW.out, Hq.out] at this
  have HSec : Hid ((secF h d s).length = S) := by show _ = _; rw [secF_length]; exact HS.out
  clear R r1 r2 hh hd hwl he hpc hW1 n1 eq1
  go_enter Tryz.func61, Tryz.ntmps61
  go_wp2_with fail
  refine CZ.mono ?_
  rintro e w' ⟨rfl, rfl⟩
  clear CZ
  go_wp2_with fail
  refine CC.mono ?_
  rintro e w1 ⟨aS, cS, rfl, hcS1, hcS2, hnS, hRS, hb1⟩
  clear CC d1 d2 d2' dz d3 d4 e1 e2 e3
  have HRS : Hid (Rd w1 aS (secF h d s)) := hRS
  have HnS : Hid (aS = none → S = 0 ∧ cS = 0) := hnS
  have B1 : Hid (Below w'.heap.size w' w1) := hb1
  obtain ⟨w2, hmk, hbl2, hbel2⟩ := madeB w1 Z (by omega)
  have HO2 : Hid (OBb w1.heap.size w1 w2 (.slice (some ⟨w1.heap.size, 0, none⟩) Z Z) (List.replicate Z 0)) := by
    have := hbl2.owb (base := w1.heap.size) (Nat.le_refl _) (by simp; omega)
    rw [List.length_replicate] at this
    exact ⟨this, hbel2⟩
  have hw12 : w1.heap.size ≤ w2.heap.size := hbel2.size
  have HRd2 : Hid (∀ W', Below w1.heap.size w1 W' → Rd W' a2 s) := fun W' hb => (H2.out.below B1.out (Nat.le_refl _)).below hb (Nat.le_refl _)
  have hL0 : ((List.replicate Z (0 : UInt8)).length) ≤ 1000000000 := by simp; omega
  have HK4 : Hid (∀ v w4, Owb w4 w1.heap.size v (List.replicate Z 0 ++ [1] ++ s) → ∃ gB cB rB, v = .slice (some ⟨gB, 0, none⟩) L cB ∧ w1.heap.size ≤ gB ∧ Bl 5 w4 gB ((blkF Z s).map B ++ rB) ∧ L + rB.length = cB ∧ cB ≤ maxLen) := fun v w4 ho => by
    have e : List.replicate Z 0 ++ [1] ++ s = blkF Z s := by unfold blkF; simp
    rw [e] at ho
    have hl : (blkF Z s).length = L := by rw [blkF_length]; have := HX.out; omega
    obtain ⟨g, c, r, e4, h1, h2, h3, h4⟩ := ho.blP (by rw [hl]; omega)
    rw [hl] at e4 h3
    exact ⟨g, c, r, e4, h1, h2, h3, h4⟩
  clear hRS hnS hb1 hbl2 hbel2
  go_wp2_with (first
    | (at_builtin; refine append_oneb (w := w1) rfl (.tmp 55) (.tmp 56) rfl w1.heap.size _ (List.replicate Z 0) 1 rfl HO2.out rfl hL0 (Nat.le_refl _) ?_; intro v3 w3 h3; have HO3 : Hid (OBb w1.heap.size w1 w3 v3 (List.replicate Z 0 ++ [1])) := h3; clear h3; obtain ⟨a3, z3, c3, e3⟩ : ∃ a z c, v3 = .slice a z c := (by obtain ⟨a, c, e, _⟩ := HO3.out.own.nb; exact ⟨a, _, c, e⟩); subst e3)
    | (at_builtin; refine append_rdb rfl (.tmp 58) (.tmp 59) rfl w1.heap.size _ (List.replicate Z 0 ++ [1]) rfl HO3.out.own a2 s.length c2 s rfl rfl n2 (HRd2.out _ HO3.out.bel) (by rw [List.length_append, List.length_replicate, List.length_singleton]; omega) HO3.out.bel.size ?_; intro v4 w4 h4 h4'; have B14 : Hid (Below w1.heap.size w1 w4) := HO3.out.bel.grown h4' HO3.out.bel.size (own_block HO3.out.own); obtain ⟨gB, cB, rB, e4, hgB, hblB, hcB, hcB2⟩ := HK4.out v4 w4 h4; clear h4 h4'; subst e4)
    | fail)
  clear hmk
  have hlL : (blkF Z s).length = L := by rw [blkF_length]; have := HX.out; omega
  have B4 : Hid (Below w'.heap.size w' w4) := B1.out.trans (B14.out.mono B1.out.size)
  have CM := rmask_any h aS cS (secF h d s) L w4 HH.out (RtB HR.out B4.out (Nat.le_refl _)) (HRS.out.below B14.out (Nat.le_refl _)) (by rw [HSec.out]; exact HnS.out) (by omega) (by rw [HSec.out]; omega)
  rw [HSec.out] at CM
  have HblB : Hid (Bl 5 w4 gB ((blkF Z s).map B ++ rB)) := hblB
  have HRS4 : Hid (Rd w4 aS (secF h d s)) := HRS.out.below B14.out (Nat.le_refl _)
  have HlL : Hid ((blkF Z s).length = L) := hlL
  have hg1 : w1.heap.size ≤ gB := hgB
  have hS1 : ∀ a, aS = some a → a.block < w1.heap.size := fun a ea => by
    rcases HRS.out with h0 | ⟨g, o, e, hg, _⟩
    · have := HSec.out; rw [h0] at this; simp at this; omega
    · rw [ea] at e; cases e; exact hg
  clear hblB hlL HO3 HO2 hL0 HK4
  refine CM.mono ?_
  rintro e w5 ⟨aM, cM, rfl, _, _, hRM, hMb, hb5⟩
  clear CM
  have hml : (maskF h (secF h d s) L).length = L := maskF_length _ _ _ (by rw [HS.out]; exact hs0)
  have HE5 : Hid (Bl 5 w5 gB ((mxL (blkF Z s) (maskF h (secF h d s) L) 0).map B ++ rB)) := by rw [mxL_zero]; exact HblB.out.below hb5 HblB.out.lt
  have B5 : Hid (Below w'.heap.size w' w5) := B4.out.trans (hb5.mono B4.out.size)
  have HRM : Hid (Rd w5 aM (maskF h (secF h d s) L)) := hRM
  have hMg : ∀ a, aM = some a → a.block ≠ gB := fun a ea => by
    have := hMb a ea
    have := HblB.out.lt
    omega
  have HRS5 : Hid (Rd w5 aS (secF h d s)) := HRS4.out.below hb5 (Nat.le_refl _)
  obtain ⟨mk, hmkq⟩ : ∃ mk, maskF h (secF h d s) L = mk := ⟨_, rfl⟩
  have Hmk : Hid (maskF h (secF h d s) L = mk) := hmkq
  rw [hmkq] at hml HE5 HRM
  have Hml : Hid (mk.length = L) := hml
  have hgw : w'.heap.size ≤ gB := by have := B1.out.size; omega
  clear hRM hMb hb5 hml hmkq HblB HRS4 B4
  go_wp2
  go_loopw [15] (fun s' wr => ∃ k : Nat, s' = .int .i64 (k : Int) ∧ k ≤ L ∧ Hid (Bl 5 wr gB ((mxL (blkF Z s) mk k).map B ++ rB)) ∧ Hid (But w5 wr gB)) (fun s' _ => L - (intOf s').toNat)
  case atStart => exact ⟨0, rfl, by omega, HE5, But.refl _ _⟩
  case round =>
    clear HE5
    obtain ⟨k, rfl, hk, HB, HWt⟩ := hrel
    by_cases hlt : k < L
    · have hkl : k < (blkF Z s).length := by rw [HlL.out]; exact hlt
      have hkm : k < mk.length := by rw [Hml.out]; exact hlt
      have hmm : mk.length = (blkF Z s).length := by rw [Hml.out, HlL.out]
      have gf := HB.out.frozen k
      have hml := mxL_length (blkF Z s) mk k hmm (by omega)
      have gb := HB.out.cell k (by rw [List.length_append, List.length_map, hml]; omega)
      rw [List.getElem_append_left (by rw [List.length_map, hml]; exact hkl), List.getElem_map, mxL_get (blkF Z s) mk k hmm hkl] at gb
      obtain ⟨gm, om, rfl, hgm, hcm⟩ := HRM.out.resolve_left (fun e => by rw [e] at hkm; simp at hkm)
      have hmne : gm ≠ gB := hMg _ rfl
      have gy0 : wr.cell? ⟨gm, om + k, none⟩ = some (B (mk.getD k 0)) := cell_but (hcm k hkm) fun h1 => HWt.out.block gm h1 hmne
      rw [List.getD_eq_getElem?_getD, List.getElem?_eq_getElem hkm, Option.getD_some] at gy0
      have hx := xor_b (blkF Z s)[k] mk[k]
      have HB2 : Hid (Bl 5 (wr.setCell ⟨gB, k, none⟩ (B ((blkF Z s)[k] ^^^ mk[k]))) gB ((mxL (blkF Z s) mk (k + 1)).map B ++ rB)) := mxL_gen _ _ k rB wr gB hmm hkl HB.out
      have HW2 : Hid (But w5 (wr.setCell ⟨gB, k, none⟩ (B ((blkF Z s)[k] ^^^ mk[k]))) gB) := HWt.out.set _ _
      generalize (blkF Z s)[k] ^^^ mk[k] = z at *
      generalize (blkF Z s)[k] = x at *
      generalize mk[k] = y at *
      unfold B at gb gy0 HB2 HW2
      have hki : (k : Int) < (L : Int) := by omega
      have d5 : decide ((k : Int) < (L : Int)) = true := decide_eq_true hki
      clear hml hcm hkl hkm hmm HB HWt
      go_wp2
      refine wp_region_tail 12 (by kernel_rfl) (by kernel_rfl) ?_
      simp only [List.take_succ_cons, List.take_zero, List.drop_succ_cons, List.drop_zero]
      repeat (first | go_big_quiet_skip | (go_big_quiet_want; go_big_quiet_op; go_big_quiet_on))
      refine wpQuiet_nil ?_
      go_wp2
      exact ⟨⟨k + 1, by go_num, by omega, HB2, HW2.out.drewN _⟩, by simp [intOf]; omega⟩
    · obtain rfl : k = L := by omega
      have d5 : decide ((k : Int) < (k : Int)) = false := decide_eq_false (by omega)
      obtain ⟨X, hX⟩ : ∃ X, xorL (blkF Z s) mk = X := ⟨_, rfl⟩
      have hXl : X.length = k := by rw [← hX, xorL_length, HlL.out, Hml.out, Nat.min_self]
      have hE7 : Bl 5 wr gB (X.map B ++ rB) := by
        have := HB.out
        have e : mxL (blkF Z s) mk k = X := by
          have := mxL_full (blkF Z s) mk (by rw [Hml.out, HlL.out])
          rw [HlL.out] at this
          rw [this, hX]
        rwa [e] at this
      have HEnc : Hid (encF h d s b = topF q X ++ secF h d s ++ [188]) := by
        show _ = _
        unfold encF
        rw [HW.out, HS.out, Hq.out, show W - S - s.length - 2 = Z by have := HX.out; omega, show W - S - 1 = k by have := HX.out; omega, Hmk.out, hX, List.append_assoc]
      have hL0 : 0 < X.length := by rw [hXl]; omega
      have f7 := hE7.frozen 0
      have c7 := hE7.cell 0 (by rw [List.length_append, List.length_map]; omega)
      rw [List.getElem_append_left (by rw [List.length_map]; exact hL0), List.getElem_map] at c7
      obtain ⟨x, hx⟩ : ∃ x, X[0] = x := ⟨_, rfl⟩
      rw [hx] at c7
      unfold B at c7
      obtain ⟨z, Hz⟩ : ∃ z, Hid (x &&& topM q = z) := ⟨_, rfl⟩
      have hand : Go.bits .and .u8 (x.toNat : Int) (255 / 2 ^ q) = (z.toNat : Int) := by rw [← Hz.out, ← topM_nat]; exact and_b x (topM q)
      have hE8 : Bl 5 (wr.setCell ⟨gB, 0, none⟩ (B z)) gB ((topF q X).map B ++ rB) := by
        have := hE7.set 0 (B z)
        rw [List.set_append_left _ _ (by rw [List.length_map]; exact hL0), ← List.map_set] at this
        have e : X.set 0 z = topF q X := by unfold topF; rw [← Hz.out, List.getD_eq_getElem?_getD, List.getElem?_eq_getElem hL0, Option.getD_some, hx]
        rw [e] at this
        exact this
      have hb8 : But w5 (wr.setCell ⟨gB, 0, none⟩ (B z)) gB := HWt.out.set _ _
      obtain ⟨w8, hw8⟩ : ∃ w8, (wr.drewN 1).setCell ⟨gB, 0, none⟩ (.int .u8 (z.toNat : Int)) = w8 := ⟨_, rfl⟩
      have Hw8 : Hid ((wr.drewN 1).setCell ⟨gB, 0, none⟩ (.int .u8 (z.toNat : Int)) = w8) := hw8
      have hE8' : Bl 5 w8 gB ((topF q X).map B ++ rB) := by rw [← hw8]; exact hE8
      have hb8' : But w5 w8 gB := by rw [← hw8]; exact hb8.drewN 1
      have HO8 : Hid (OBb w'.heap.size w' w8 (.slice (some ⟨gB, 0, none⟩) k cB) (topF q X)) := by
        have := Owb.mkP (base := w'.heap.size) hE8' hgw (by rw [topF_length, hXl]; exact hcB) hcB2
        rw [topF_length, hXl] at this
        exact ⟨this, B5.out.trans (hb8'.below B5.out.size hgw)⟩
      have HRS8 : Hid (Rd w8 aS (secF h d s)) := HRS5.out.butb hb8' (fun a ea => by have := hS1 a ea; omega)
      have hw88 : w'.heap.size ≤ w8.heap.size := HO8.out.bel.size
      have HTl : Hid ((topF q X).length = k) := by show _ = _; rw [topF_length]; exact hXl
      have HLl : Hid ((topF q X ++ secF h d s).length ≤ 1000000000) := by show _ ≤ _; rw [List.length_append, HTl.out, HSec.out]; omega
      clear hE7 hE8 hb8 hw8 hE8' hb8' hX hx hXl hL0 HB HWt HRS5 hlt hk
      go_wp2
      refine wp_region_tail 10 (by kernel_rfl) (by kernel_rfl) ?_
      simp only [List.take_succ_cons, List.take_zero, List.drop_succ_cons, List.drop_zero]
      repeat (first | go_big_quiet_skip | (go_big_quiet_want; go_big_quiet_op; go_big_quiet_on) | (go_big_quiet_want; go_big_quiet_op; refine ⟨_, HTop.out _, ?_⟩; go_big_quiet_on))
      refine wpQuiet_nil ?_
      go_wp2_with (first
        | (at_builtin; rw [Hw8.out]; refine append_rdb rfl (.tmp 94) (.tmp 95) rfl w'.heap.size _ (topF q X) rfl HO8.out.own aS S cS (secF h d s) rfl HSec.out HnS.out HRS8.out (by rw [HTl.out]; omega) hw88 ?_; intro v9 w9 h9 h9'; have HO9 : Hid (OBb w'.heap.size w' w9 v9 (topF q X ++ secF h d s)) := ⟨h9, HO8.out.bel.grown h9' hw88 (own_block HO8.out.own)⟩; clear h9 h9')
        | (at_builtin; refine append_oneb (w := w') rfl (.tmp 97) (.tmp 98) rfl w'.heap.size _ (topF q X ++ secF h d s) 188 rfl HO9.out rfl HLl.out (Nat.le_refl _) ?_; intro v10 w10 h10; have HO10 : Hid (OBb w'.heap.size w' w10 v10 (encF h d s b)) := (by rw [HEnc.out]; exact h10); clear h10)
        | fail)
      go_ret2
      rw [Hv.out]
      exact ⟨_, rfl, HO10.out⟩

end Go.Proofs.YthnogdkkdekgpaaGreatDoor
