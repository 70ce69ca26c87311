import Derived.Test.YtfpimcmhooiooaaGreatDoorTf
namespace Go.Proofs.YtfpimcmhooiooaaGreatDoor
open Go.RowKit Go.Shelf

/-- What the reading of a shape answers, so deep at most. -/
def ShC (B : Nat) (l : List Nd) (ao : Option Addr) (cap mb f : Nat) : Prop := ∀ (w : World) (i : Nat) (around d : Int) (met : List (Nat × List UInt8)), NR w (.slice ao l.length cap) l ao cap → Mp w mb met → GL B w → B ≤ w.heap.size → i ≤ l.length → (around = -1 ∨ (0 ≤ around ∧ around < l.length)) → d + f = 33 → 0 ≤ d →
    Calls Tryz.prog 46 #[.agg #[.slice ao l.length cap, .map (some mb)], .int .i64 (i : Int), .int .i64 around, .int .i64 d] w fun e w' => But w w' mb ∧
      (∀ j m, svF l f i around d met = some (j, m) → e = .returned (.int .i64 (j : Nat)) ∧ Mp w' mb m) ∧ (svF l f i around d met = none → e = .returned (.int .i64 (-1)))

theorem wm_kids {n : Nd} {d : Int} (h : wmF n d = true) : 0 ≤ n.kids ∧ (0 < n.kids → d < 32) := by
  unfold wmF at h
  split at h
  · have h1 := congrArg Nd.kids (of_decide_eq_true h)
    have h2 : n.kids = 0 := h1
    omega
  · split at h
    · simp only [Bool.and_eq_true] at h
      have h2 : n.kids = 0 := congrArg Nd.kids (of_decide_eq_true h.2)
      omega
    · split at h
      · simp only [Bool.and_eq_true] at h
        have h2 : n.kids = 0 := congrArg Nd.kids (of_decide_eq_true h.2)
        omega
      · split at h
        · simp only [Bool.and_eq_true, decide_eq_true_eq] at h
          omega
        · cases h

set_option maxRecDepth 100000 in
set_option maxHeartbeats 16000000 in
theorem shape_step (B : Nat) (l : List Nd) (ao : Option Addr) (cap mb f : Nat) (ht : TB l) (hl : l.length ≤ 1000000000) (hmb : B ≤ mb) (ih : 1 ≤ f → ShC B l ao cap mb f) : ShC B l ao cap mb (f + 1) := by
  intro w i around d met h hM hG hBw hi ha hd hd0
  obtain ⟨R, hR⟩ : ∃ R, svF l (f + 1) i around d met = R := ⟨_, rfl⟩
  rw [hR]
  have HE : Hid (svF l (f + 1) i around d met = R) := hR
  obtain ⟨W, hW⟩ : ∃ W : World, W = w.alloc (.cells #[.slice ao l.length cap, .map (some mb)] 92) := ⟨_, rfl⟩
  have hB1 : Below w.heap.size w W := by rw [hW]; exact alloc_below _ _
  have hbn : w.heap.size ≠ mb := by have := hM.lt; omega
  have hbx : Bl 92 W w.heap.size [.slice ao l.length cap, .map (some mb)] := by rw [hW]; exact alloc_bl _ _ _
  have HBX : Hid (Bl 92 W w.heap.size [.slice ao l.length cap, .map (some mb)]) := hbx
  have x0 : W.cell? ⟨w.heap.size, 0, none⟩ = some (.slice ao l.length cap) := hbx.cell 0 (by simp)
  have x1 : W.cell? ⟨w.heap.size, 1, none⟩ = some (.map (some mb)) := hbx.cell 1 (by simp)
  have HB1 : Hid (But w W mb) := But.of_below hB1
  have HM1 : Hid (Mp W mb met) := hM.keep (hB1.block mb hM.lt)
  have HN1 : Hid (NR W (.slice ao l.length cap) l ao cap) := h.below hB1 (Nat.le_refl _)
  have HG1 : Hid (GL B W) := hG.below (hB1.mono hBw)
  have hBW : B ≤ W.heap.size := Nat.le_trans hBw hB1.size
  clear h hM hG hbx hR
  by_cases hil : i < l.length
  · have qi : decide ((i : Int) ≥ (l.length : Int)) = false := decide_eq_false (by omega)
    have qN : decide (l.length ≤ i) = false := decide_eq_false (by omega)
    obtain ⟨g, off, rfl, hcell⟩ := HN1.out.at hil
    obtain ⟨n, hn⟩ : ∃ n, l.getD i (nd0 0) = n := ⟨_, rfl⟩
    rw [hn] at hcell
    have Hnn : Hid (n = l.getD i (nd0 0)) := hn.symm
    have k0 := hcell 0 (.int .i64 n.kind) (by omega) rfl
    rw [Nat.add_zero] at k0
    have k1 := hcell 1 (.string ⟨n.key.toArray⟩) (by omega) rfl
    have k2 := hcell 2 (.string ⟨n.text.toArray⟩) (by omega) rfl
    have k3 := hcell 3 (.bool n.whole) (by omega) rfl
    have k4 := hcell 4 (.int .i64 n.int) (by omega) rfl
    have k5 := hcell 5 (.int .i64 n.kids) (by omega) rfl
    have CW := wellMade_any (B := B) n d W (by rw [← hn]; exact (ht.at hil).1) HG1.out hBW
    cases hwm : wmF n d
    · rw [hwm] at CW
      have HZ : Hid (R = none) := by show _ = _; rw [← HE.out]; unfold svF; rw [if_neg (by rw [hn, hwm]; simp)]
      clear HE hwm hcell ih hn
      subst hW
      go_enter Tryz.func46, Tryz.ntmps46
      go_wp2_with fail
      refine CW.mono ?_
      rintro e w2 ⟨rfl, hB2⟩
      go_wp2
      go_ret
      refine ⟨HB1.out.trans (But.of_below hB2), ?_, ?_⟩
      · intro j m e; rw [HZ.out] at e; cases e
      · intro _; rfl
    · rw [hwm] at CW
      have hkk := wm_kids hwm
      have hk0 := hkk.1
      have Hk1 : Hid (0 < n.kids → d < 32) := hkk.2
      have HZ : Hid ((match nmF l i around met with
        | none => none
        | some met' => skF (fun j m => svF l f j (i : Int) (d + 1) m) (l.length + 1) n.kids (i + 1) met') = R) := by
          show _ = _
          rw [← HE.out]
          conv => rhs; unfold svF
          rw [if_pos ⟨hil, by rw [hn]; exact hwm⟩, hn]
          rfl
      have CN : Hid (∀ w2, NR w2 (.slice (some ⟨g, off, none⟩) l.length cap) l (some ⟨g, off, none⟩) cap → Mp w2 mb met → GL B w2 → B ≤ w2.heap.size → Calls Tryz.prog 63 #[.agg #[.slice (some ⟨g, off, none⟩) l.length cap, .map (some mb)], .int .i64 (i : Int), .int .i64 around] w2 fun e w' => But w2 w' mb ∧
        (∀ m, nmF l i around met = some m → e = .returned (.bool true) ∧ Mp w' mb m) ∧ (nmF l i around met = none → e = .returned (.bool false))) := fun w2 h2 m2 g2 b2 => named_any _ l _ cap i around mb met w2 h2 m2 g2 b2 ht hil ha hl
      clear HE hwm hkk hcell hn ha
      cases hnm : nmF l i around met with
      | none =>
        rw [hnm] at CN
        have HZ2 : Hid (R = none) := by show _ = _; rw [← HZ.out, hnm]
        clear HZ hnm ih
        subst hW
        go_enter Tryz.func46, Tryz.ntmps46
        go_wp2_with fail
        refine CW.mono ?_
        clear CW
        rintro e w2 ⟨rfl, hB2⟩
        have y0 : w2.cell? ⟨w.heap.size, 0, none⟩ = some (.slice (some ⟨g, off, none⟩) l.length cap) := (HBX.out.below hB2 HBX.out.lt).cell 0 (by simp)
        have y1 : w2.cell? ⟨w.heap.size, 1, none⟩ = some (.map (some mb)) := (HBX.out.below hB2 HBX.out.lt).cell 1 (by simp)
        have C2 := CN.out w2 (HN1.out.below hB2 (Nat.le_refl _)) (HM1.out.keep (hB2.block mb HM1.out.lt)) (HG1.out.below (hB2.mono hBW)) (Nat.le_trans hBW hB2.size)
        have HB2 : Hid (But w w2 mb) := HB1.out.trans (But.of_below hB2)
        clear hB2 x0 x1 k0 k1 k2 k3 k4 k5
        go_wp2_with fail
        refine C2.mono ?_
        rintro e w3 ⟨hB3, _, h3⟩
        obtain rfl := h3 trivial
        go_wp2
        go_ret
        refine ⟨HB2.out.trans hB3, ?_, ?_⟩
        · intro j m e; rw [HZ2.out] at e; cases e
        · intro _; rfl
      | some met2 =>
        rw [hnm] at CN
        have HZ2 : Hid (skF (fun j m => svF l f j (i : Int) (d + 1) m) (l.length + 1) n.kids (i + 1) met2 = R) := by show _ = _; rw [← HZ.out, hnm]
        clear HZ hnm
        have IH : Hid (1 ≤ f → ShC B l (some ⟨g, off, none⟩) cap mb f) := ih
        clear ih
        subst hW
        go_enter Tryz.func46, Tryz.ntmps46
        go_wp2_with fail
        refine CW.mono ?_
        clear CW
        rintro e w2 ⟨rfl, hB2⟩
        have HBY : Hid (Bl 92 w2 w.heap.size [.slice (some ⟨g, off, none⟩) l.length cap, .map (some mb)]) := HBX.out.below hB2 HBX.out.lt
        have y0 : w2.cell? ⟨w.heap.size, 0, none⟩ = some (.slice (some ⟨g, off, none⟩) l.length cap) := HBY.out.cell 0 (by simp)
        have y1 : w2.cell? ⟨w.heap.size, 1, none⟩ = some (.map (some mb)) := HBY.out.cell 1 (by simp)
        have HM2 : Hid (Mp w2 mb met) := HM1.out.keep (hB2.block mb HM1.out.lt)
        have HN2 : Hid (NR w2 (.slice (some ⟨g, off, none⟩) l.length cap) l (some ⟨g, off, none⟩) cap) := HN1.out.below hB2 (Nat.le_refl _)
        have HG2 : Hid (GL B w2) := HG1.out.below (hB2.mono hBW)
        have C2 := CN.out w2 HN2.out HM2.out HG2.out (Nat.le_trans hBW hB2.size)
        have HB2 : Hid (But w w2 mb) := HB1.out.trans (But.of_below hB2)
        have hBW2 : B ≤ w2.heap.size := Nat.le_trans hBW hB2.size
        clear hB2 x0 x1 k0 k1 k2 k3 k4 k5
        go_wp2_with fail
        refine C2.mono ?_
        clear C2
        rintro e w3 ⟨hB3, h3, _⟩
        obtain ⟨rfl, hM3⟩ := h3 met2 rfl
        clear h3
        have HB3 : Hid (But w w3 mb) := HB2.out.trans hB3
        have HM3 : Hid (Mp w3 mb met2) := hM3
        have HN3 : Hid (NR w3 (.slice (some ⟨g, off, none⟩) l.length cap) l (some ⟨g, off, none⟩) cap) := HN2.out.but HM2.out hB3
        have HG3 : Hid (GL B w3) := HG2.out.below (hB3.below hBW2 hmb)
        have HBZ : Hid (Bl 92 w3 w.heap.size [.slice (some ⟨g, off, none⟩) l.length cap, .map (some mb)]) := HBY.out.but hB3 hbn
        have hBW3 : B ≤ w3.heap.size := Nat.le_trans hBW2 hB3.size
        have z0 : w3.cell? ⟨w.heap.size, 0, none⟩ = some (.slice (some ⟨g, off, none⟩) l.length cap) := HBZ.out.cell 0 (by simp)
        obtain ⟨g', off', e', hc3⟩ := HN3.out.at hil
        cases e'
        obtain ⟨K, hK⟩ : ∃ K, (l.getD i (nd0 0)).kids = K := ⟨_, rfl⟩
        have kK := hc3 5 (.int .i64 K) (by omega) (by rw [← hK]; rfl)
        have HKn : Hid (n.kids = K) := by show _ = _; rw [← hK, ← Hnn.out]
        clear hK
        clear hc3 hB3 hM3 y0 y1
        go_wp2
        go_loopw [9, 40] (fun s9 s40 wx => ∃ (c k : Nat) (m : List (Nat × List UInt8)), s40 = .int .i64 c ∧ s9 = .int .i64 k ∧ k ≤ l.length ∧ c < k ∧ But w wx mb ∧ Mp wx mb m ∧ NR wx (.slice (some ⟨g, off, none⟩) l.length cap) l (some ⟨g, off, none⟩) cap ∧ GL B wx ∧ B ≤ wx.heap.size ∧ Bl 92 wx w.heap.size [.slice (some ⟨g, off, none⟩) l.length cap, .map (some mb)] ∧ skF (fun j m => svF l f j (i : Int) (d + 1) m) (l.length + 1) (K - c) k m = R) (fun s _ _ => l.length - (intOf s).toNat)
        case atStart => exact ⟨0, i + 1, met2, rfl, by go_num, by omega, by omega, HB3.out, HM3.out, HN3.out, HG3.out, hBW3, HBZ.out, by have := HZ2.out; rw [HKn.out] at this; simpa using this⟩
        case round =>
          obtain ⟨c, k, m, rfl, rfl, hk, hck, hb, hm, hnr, hg, hbw, hbl, hsk⟩ := hrel
          have HBr : Hid (But w wr mb) := hb
          have HMr : Hid (Mp wr mb m) := hm
          have HNr : Hid (NR wr (.slice (some ⟨g, off, none⟩) l.length cap) l (some ⟨g, off, none⟩) cap) := hnr
          have HGr : Hid (GL B wr) := hg
          have HLr : Hid (Bl 92 wr w.heap.size [.slice (some ⟨g, off, none⟩) l.length cap, .map (some mb)]) := hbl
          have HSr : Hid (skF (fun j m => svF l f j (i : Int) (d + 1) m) (l.length + 1) (K - c) k m = R) := hsk
          clear hb hm hnr hg hbl hsk
          by_cases hcK : (c : Int) < K
          · have q0 : decide ((c : Int) < K) = true := decide_eq_true hcK
            have hd32 : d < 32 := Hk1.out (by rw [HKn.out]; omega)
            have C4 := IH.out (by omega) wr k (i : Int) (d + 1) m HNr.out HMr.out HGr.out hbw hk (.inr (by omega)) (by omega) (by omega)
            have v0 : wr.cell? ⟨w.heap.size, 0, none⟩ = some (.slice (some ⟨g, off, none⟩) l.length cap) := HLr.out.cell 0 (by simp)
            have v1 : wr.cell? ⟨w.heap.size, 1, none⟩ = some (.map (some mb)) := HLr.out.cell 1 (by simp)
            have HS2 : Hid ((match svF l f k (i : Int) (d + 1) m with
              | none => none
              | some (j, met') => skF (fun j m => svF l f j (i : Int) (d + 1) m) l.length (K - c - 1) j met') = R) := by
                show _ = _
                rw [← HSr.out]
                conv => rhs; unfold skF
                rw [if_pos (by omega)]
                rfl
            clear HSr z0 kK
            cases hsv : svF l f k (i : Int) (d + 1) m with
            | none =>
              rw [hsv] at C4
              have HZ3 : Hid (R = none) := by show _ = _; rw [← HS2.out, hsv]
              clear HS2 hsv
              go_wp2_with fail
              refine C4.mono ?_
              clear C4
              rintro e w5 ⟨hB5, _, h5⟩
              obtain rfl := h5 trivial
              go_wp2
              go_ret
              refine ⟨HBr.out.trans hB5, ?_, ?_⟩
              · intro j m e; rw [HZ3.out] at e; cases e
              · intro _; rfl
            | some jm =>
              obtain ⟨j, m2⟩ := jm
              rw [hsv] at C4
              have hgt := svF_gt f k _ _ m j m2 hsv
              have hj1 := hgt.1
              have hj2 := hgt.2
              have HZ3 : Hid (skF (fun j m => svF l f j (i : Int) (d + 1) m) (l.length + 1) (K - ((c + 1 : Nat) : Int)) j m2 = R) := by
                show _ = _
                rw [← HS2.out, hsv]
                show _ = skF _ l.length (K - c - 1) j m2
                rw [skF_fuel (v := l) (fun i m j m' h => svF_gt f i _ _ m j m' h) (fun i m h => svF_out f i _ _ m h) (l.length + 1) l.length _ j m2 (by omega) (by omega)]
                congr 1
                omega
              clear HS2 hsv hgt
              go_wp2_with fail
              refine C4.mono ?_
              clear C4
              rintro e w5 ⟨hB5, h5, _⟩
              obtain ⟨rfl, hM5⟩ := h5 j m2 rfl
              clear h5
              have HB5 : Hid (But w w5 mb) := HBr.out.trans hB5
              have HN5 : Hid (NR w5 (.slice (some ⟨g, off, none⟩) l.length cap) l (some ⟨g, off, none⟩) cap) := HNr.out.but HMr.out hB5
              have HG5 : Hid (GL B w5) := HGr.out.below (hB5.below hbw hmb)
              have HL5 : Hid (Bl 92 w5 w.heap.size [.slice (some ⟨g, off, none⟩) l.length cap, .map (some mb)]) := HLr.out.but hB5 hbn
              have hbw5 : B ≤ w5.heap.size := Nat.le_trans hbw hB5.size
              have HM5 : Hid (Mp w5 mb m2) := hM5
              have q5 : decide ((j : Int) < 0) = false := decide_eq_false (by omega)
              clear hB5 hM5 v0 v1
              go_wp2
              go_roundw
              case rel => exact ⟨c + 1, j, m2, by go_num, rfl, hj2, by omega, HB5.out, HM5.out, HN5.out, HG5.out, hbw5, HL5.out, HZ3.out⟩
              case measure => simp [intOf]; omega
          · have q0 : decide ((c : Int) < K) = false := decide_eq_false hcK
            have HZ3 : Hid (R = some (k, m)) := by show _ = _; rw [← HSr.out]; unfold skF; rw [if_neg (by omega)]
            clear HSr
            go_wp2
            go_ret
            refine ⟨HBr.out, ?_, ?_⟩
            · intro j m e; rw [HZ3.out] at e; cases e; exact ⟨rfl, HMr.out⟩
            · intro e; rw [HZ3.out] at e; cases e
  · have qi : decide ((i : Int) ≥ (l.length : Int)) = true := decide_eq_true (by omega)
    have HZ : Hid (R = none) := by show _ = _; rw [← HE.out, svF_out _ _ _ _ _ (by omega)]
    clear HE ih
    subst hW
    go_enter Tryz.func46, Tryz.ntmps46
    go_wp2
    go_ret
    refine ⟨HB1.out, ?_, ?_⟩
    · intro j m e; rw [HZ.out] at e; cases e
    · intro _; rfl

theorem shape_all (B : Nat) (l : List Nd) (ao : Option Addr) (cap mb : Nat) (ht : TB l) (hl : l.length ≤ 1000000000) (hmb : B ≤ mb) : ∀ f, ShC B l ao cap mb (f + 1)
  | 0 => shape_step B l ao cap mb 0 ht hl hmb (fun h => by omega)
  | f + 1 => shape_step B l ao cap mb (f + 1) ht hl hmb (fun _ => shape_all B l ao cap mb ht hl hmb f)

end Go.Proofs.YtfpimcmhooiooaaGreatDoor
