import Derived.Test.YtibgpcheembdkaaDoorHm5
namespace Go.Proofs.YtibgpcheembdkaaDoor
open Go.RowKit

theorem fill_end (l : List UInt8) (N k : Nat) (hk : k ≤ N) (h : l.length ≤ k ∨ N ≤ k) : (List.range k).map (fun i => l.getD i 0) ++ List.replicate (N - k) 0 = (List.range N).map (fun i => l.getD i 0) := by
  rcases h with h | h
  · apply List.ext_getElem
    · simp; omega
    · intro j h1 h2
      rcases Nat.lt_or_ge j k with hj | hj
      · rw [List.getElem_append_left (by simpa using hj)]
        simp
      · rw [List.getElem_append_right (by simpa using hj)]
        simp [List.getElem?_eq_none (show l.length ≤ j by omega)]
  · obtain rfl : k = N := by omega
    simp

set_option maxHeartbeats 2000000 in
theorem fill5_any (h : Int) (a : Option Addr) (c : Nat) (key : List UInt8) (w : World) (T : Tb w) (hr : Rd w a key) (hc : key.length ≤ c) (hc2 : c ≤ 9223372036854775807) (hkl : key.length ≤ 1152921504606846976) :
    Calls Tryd.prog 36 #[.int .i64 h, .slice a key.length c] w fun e w' => ∃ G, e = .returned (.slice (some ⟨G, 0, none⟩) (blk h) (blk h)) ∧ w.heap.size ≤ G ∧ Bl 5 w' G ((filF h key).map B) ∧ Below w.heap.size w w' := by
  have hbl := blk_le h
  have hsl := siz_le h
  have HT : Hid (Tb w) := T
  have HR : Hid (Rd w a key) := hr
  have CB := block5_any h
  obtain ⟨N, hN⟩ : ∃ N, blk h = N := ⟨_, rfl⟩
  rw [hN] at CB hbl
  clear T hr
  by_cases hlong : N < key.length
  · have hKF : (List.range N).map (fun i => (sumF h key).getD i 0) = filF h key := by
      unfold filF keyF
      rw [hN, if_pos hlong]
    have HF : Hid (True → (List.range N).map (fun i => (sumF h key).getD i 0) = filF h key) := fun _ => hKF
    rw [hN]
    clear hKF hN
    go_enter Tryd.func36, Tryd.ntmps36
    go_wp2_with fail
    refine (CB w).mono ?_
    rintro e w1 ⟨rfl, hw1⟩
    subst w1
    go_wp2_with fail
    have hp := pts1 w 23 ⟨a, c, key⟩ ⟨HR.out, hc, by show c ≤ _; omega⟩
    have hb3 := alloc_below w (.cells #[prV ⟨a, c, key⟩] 23)
    have hsz := alloc_size w (.cells #[prV ⟨a, c, key⟩] 23)
    dsimp only [prV] at hp hb3 hsz
    have C := ssum_any h (some ⟨w.heap.size, 0, none⟩) 1 [⟨a, c, key⟩] _ (HT.out.below hb3) hp (by simp) (by rw [cat1]; show key.length < _; omega)
    rw [cat1] at C
    refine C.mono ?_
    rintro e w2 ⟨aK, rfl, hown, hb2⟩
    have HBm : Hid (Below w.heap.size w w2) := hb3.trans (hb2.mono hb3.size)
    have HRK : Hid (Rd w2 aK (sumF h key)) := hown.rd
    have hKl : (sumF h key).length = siz h := sumF_length h key
    clear hp hb3 C hown hb2 hsz
    obtain ⟨nK, hcK⟩ : ∃ nK, nK = siz h := ⟨_, rfl⟩
    rw [← hcK] at hKl hsl
    rw [← hcK]
    clear hcK
    generalize sumF h key = KK at *
    have HKl : Hid (True → KK.length = nK) := fun _ => hKl
    clear hKl
    go_wp2_with fail
    refine (CB w2).mono ?_
    rintro e w1 ⟨rfl, hw1⟩
    subst w1
    clear CB
    obtain ⟨wm, hmk, hcm, hbm⟩ := made w2 N (by omega)
    have HB2 : Hid (Below w.heap.size w wm) := HBm.out.trans (hbm.mono HBm.out.size)
    have HR2 : Hid (Rd wm aK KK) := HRK.out.below hbm (Nat.le_refl _)
    have HO2 : Hid (Off aK KK w2.heap.size) := HRK.out.off _ (Nat.le_refl _)
    have HC2 : Hid (Bl 5 wm w2.heap.size (((List.range 0).map (fun i => KK.getD i 0) ++ List.replicate (N - 0) 0).map B)) := hcm
    have hGle : w.heap.size ≤ w2.heap.size := HBm.out.size
    clear hcm hbm HBm HRK
    obtain ⟨G, hG⟩ : ∃ G, w2.heap.size = G := ⟨_, rfl⟩
    rw [hG] at HO2 HC2 hGle hmk
    clear hG
    go_wp2
    clear hmk
    clear w2
    rename World => w2
    go_loopw [7] (fun s ws => ∃ k : Nat, s = .int .i64 (k : Int) ∧ k ≤ N ∧ k ≤ nK ∧ Hid (Bl 5 ws G (((List.range k).map (fun i => KK.getD i 0) ++ List.replicate (N - k) 0).map B)) ∧ Hid (But w2 ws G)) (fun s _ => N - (intOf s).toNat)
    case atStart => exact ⟨0, rfl, by omega, by omega, HC2, But.refl _ _⟩
    case round =>
      clear HC2
      obtain ⟨k, rfl, hk, hk2, hcl, hbut⟩ := hrel
      by_cases hlt : k < N
      · by_cases hlt2 : k < nK
        · have hr2 := HR2.out.but hbut.out HO2.out
          rcases hr2 with hr2 | ⟨b, o, rfl, hb, hc⟩
          · have h0 := HKl.out trivial
            subst hr2
            simp at h0
            omega
          have g1 := hc k (by rw [HKl.out trivial]; exact hlt2)
          have gf := hcl.out.frozen k
          obtain ⟨old, gc⟩ : ∃ v, wr.cell? ⟨G, k, none⟩ = some v := ⟨_, hcl.out.cell k (by simp; omega)⟩
          have Hs : Hid (True → (((List.range k).map (fun i => KK.getD i 0) ++ List.replicate (N - k) 0).map B).set k (B (KK.getD k 0)) = (((List.range (k + 1)).map (fun i => KK.getD i 0) ++ List.replicate (N - (k + 1)) 0).map B)) := fun _ => made_set (fun i => KK.getD i 0) N k _ hlt rfl
          unfold B at g1
          clear hc
          obtain ⟨y, hy⟩ : ∃ y, KK.getD k 0 = y := ⟨_, rfl⟩
          rw [hy] at g1 Hs
          clear hy
          go_wp2
          refine ⟨⟨k + 1, by go_num, by omega, by omega, ?_, hbut.out.set _ _⟩, by simp [intOf]; omega⟩
          have h1 := hcl.out.set k (B y)
          rw [Hs.out trivial] at h1
          exact h1
        · have hfe := fill_end KK N k (by omega) (.inl (by rw [HKl.out trivial]; omega))
          have h1 := hcl.out
          rw [hfe, HF.out trivial] at h1
          have HC9 : Hid (Bl 5 wr G ((filF h key).map B)) := h1
          have HB9 : Hid (Below w.heap.size w wr) := HB2.out.trans (hbut.out.below HB2.out.size hGle)
          clear h1 hfe hcl hbut
          go_wp2
          go_ret
          exact ⟨G, rfl, hGle, HC9.out, HB9.out⟩
      · have hfe := fill_end KK N k (by omega) (.inr (by omega))
        have h1 := hcl.out
        rw [hfe, HF.out trivial] at h1
        have HC9 : Hid (Bl 5 wr G ((filF h key).map B)) := h1
        have HB9 : Hid (Below w.heap.size w wr) := HB2.out.trans (hbut.out.below HB2.out.size hGle)
        clear h1 hfe hcl hbut
        by_cases hlt2 : k < nK
        · go_wp2
          go_ret
          exact ⟨G, rfl, hGle, HC9.out, HB9.out⟩
        · go_wp2
          go_ret
          exact ⟨G, rfl, hGle, HC9.out, HB9.out⟩
  · have hKF : (List.range N).map (fun i => key.getD i 0) = filF h key := by
      unfold filF keyF
      rw [hN, if_neg (by omega)]
    have HF : Hid (True → (List.range N).map (fun i => key.getD i 0) = filF h key) := fun _ => hKF
    rw [hN]
    clear hKF hN
    obtain ⟨w2, hmk, hcm, hbm⟩ := made w N (by omega)
    have HB2 : Hid (Below w.heap.size w w2) := hbm
    have HR2 : Hid (Rd w2 a key) := HR.out.below hbm (Nat.le_refl _)
    have HO2 : Hid (Off a key w.heap.size) := HR.out.off _ (Nat.le_refl _)
    have HC2 : Hid (Bl 5 w2 w.heap.size (((List.range 0).map (fun i => key.getD i 0) ++ List.replicate (N - 0) 0).map B)) := hcm
    have hGle : w.heap.size ≤ w.heap.size := Nat.le_refl _
    clear hcm hbm HR HT
    obtain ⟨G, hG⟩ : ∃ G, w.heap.size = G := ⟨_, rfl⟩
    have hGle : w.heap.size ≤ G := by omega
    rw [hG] at HO2 HC2 hmk
    clear hG
    obtain ⟨KK, hKK⟩ : ∃ KK, key = KK := ⟨_, rfl⟩
    rw [hKK] at HO2 HR2 HC2 hlong hc
    obtain ⟨nK, hnK⟩ : ∃ nK, KK.length = nK := ⟨_, rfl⟩
    have HKl : Hid (True → KK.length = nK) := fun _ => hnK
    have HF : Hid (True → (List.range N).map (fun i => KK.getD i 0) = filF h key) := by rw [← hKK]; exact HF
    rw [hnK] at hlong hc
    have hk9 : key.length = nK := by rw [hKK, hnK]
    rw [hk9]
    clear hnK hKK hk9
    go_enter Tryd.func36, Tryd.ntmps36
    go_wp2_with fail
    refine (CB w).mono ?_
    rintro e w1 ⟨rfl, hw1⟩
    subst w1
    go_wp2_with fail
    refine (CB w).mono ?_
    rintro e w1 ⟨rfl, hw1⟩
    subst w1
    clear CB
    go_wp2
    clear hmk
    go_loopw [7] (fun s ws => ∃ k : Nat, s = .int .i64 (k : Int) ∧ k ≤ N ∧ k ≤ nK ∧ Hid (Bl 5 ws G (((List.range k).map (fun i => KK.getD i 0) ++ List.replicate (N - k) 0).map B)) ∧ Hid (But w2 ws G)) (fun s _ => N - (intOf s).toNat)
    case atStart => exact ⟨0, rfl, by omega, by omega, HC2, But.refl _ _⟩
    case round =>
      clear HC2
      obtain ⟨k, rfl, hk, hk2, hcl, hbut⟩ := hrel
      by_cases hlt : k < N
      · by_cases hlt2 : k < nK
        · have hr2 := HR2.out.but hbut.out HO2.out
          rcases hr2 with hr2 | ⟨b, o, rfl, hb, hc⟩
          · have h0 := HKl.out trivial
            subst hr2
            simp at h0
            omega
          have g1 := hc k (by rw [HKl.out trivial]; exact hlt2)
          have gf := hcl.out.frozen k
          obtain ⟨old, gc⟩ : ∃ v, wr.cell? ⟨G, k, none⟩ = some v := ⟨_, hcl.out.cell k (by simp; omega)⟩
          have Hs : Hid (True → (((List.range k).map (fun i => KK.getD i 0) ++ List.replicate (N - k) 0).map B).set k (B (KK.getD k 0)) = (((List.range (k + 1)).map (fun i => KK.getD i 0) ++ List.replicate (N - (k + 1)) 0).map B)) := fun _ => made_set (fun i => KK.getD i 0) N k _ hlt rfl
          unfold B at g1
          clear hc
          obtain ⟨y, hy⟩ : ∃ y, KK.getD k 0 = y := ⟨_, rfl⟩
          rw [hy] at g1 Hs
          clear hy
          go_wp2
          refine ⟨⟨k + 1, by go_num, by omega, by omega, ?_, hbut.out.set _ _⟩, by simp [intOf]; omega⟩
          have h1 := hcl.out.set k (B y)
          rw [Hs.out trivial] at h1
          exact h1
        · have hfe := fill_end KK N k (by omega) (.inl (by rw [HKl.out trivial]; omega))
          have h1 := hcl.out
          rw [hfe, HF.out trivial] at h1
          have HC9 : Hid (Bl 5 wr G ((filF h key).map B)) := h1
          have HB9 : Hid (Below w.heap.size w wr) := HB2.out.trans (hbut.out.below HB2.out.size hGle)
          clear h1 hfe hcl hbut
          go_wp2
          go_ret
          exact ⟨G, rfl, hGle, HC9.out, HB9.out⟩
      · have hfe := fill_end KK N k (by omega) (.inr (by omega))
        have h1 := hcl.out
        rw [hfe, HF.out trivial] at h1
        have HC9 : Hid (Bl 5 wr G ((filF h key).map B)) := h1
        have HB9 : Hid (Below w.heap.size w wr) := HB2.out.trans (hbut.out.below HB2.out.size hGle)
        clear h1 hfe hcl hbut
        by_cases hlt2 : k < nK
        · go_wp2
          go_ret
          exact ⟨G, rfl, hGle, HC9.out, HB9.out⟩
        · go_wp2
          go_ret
          exact ⟨G, rfl, hGle, HC9.out, HB9.out⟩

set_option maxRecDepth 100000 in
theorem jefe : tagF 1 [74, 101, 102, 101] [119, 104, 97, 116, 32, 100, 111, 32, 121, 97, 32, 119, 97, 110, 116, 32, 102, 111, 114, 32, 110, 111, 116, 104, 105, 110, 103, 63] = [91, 220, 193, 70, 191, 96, 117, 78, 106, 4, 36, 38, 8, 149, 117, 199, 90, 0, 63, 8, 157, 39, 57, 131, 157, 236, 88, 185, 100, 236, 56, 67] := by decide +kernel

/-- A constant's bytes. -/
theorem const_rd (w : World) (l : List UInt8) (t : TypeId) (fz : Nat × Nat) : Rd (w.alloc (.cells (l.map B).toArray t fz)) (some ⟨w.heap.size, 0, none⟩) l := by
  have a1 := alloc_last w (.cells (l.map B).toArray t fz)
  refine .inr ⟨w.heap.size, 0, rfl, by rw [alloc_size]; omega, fun j hj => ?_⟩
  generalize w.alloc _ = W at a1 ⊢
  unfold World.cell?
  simp [a1, hj]
theorem jd (w W : World) (t : TypeId) (f1 f2 : Nat × Nat) (hW : W = (w.alloc (.cells #[.int .u8 74, .int .u8 101, .int .u8 102, .int .u8 101] t f1)).alloc (.cells #[.int .u8 119, .int .u8 104, .int .u8 97, .int .u8 116, .int .u8 32, .int .u8 100, .int .u8 111, .int .u8 32, .int .u8 121, .int .u8 97, .int .u8 32, .int .u8 119, .int .u8 97, .int .u8 110, .int .u8 116, .int .u8 32, .int .u8 102, .int .u8 111, .int .u8 114, .int .u8 32, .int .u8 110, .int .u8 111, .int .u8 116, .int .u8 104, .int .u8 105, .int .u8 110, .int .u8 103, .int .u8 63] t f2)) :
    Below w.heap.size w W ∧ Rd W (some ⟨w.heap.size, 0, none⟩) [74, 101, 102, 101] ∧ Rd W (some ⟨w.heap.size + 1, 0, none⟩) [119, 104, 97, 116, 32, 100, 111, 32, 121, 97, 32, 119, 97, 110, 116, 32, 102, 111, 114, 32, 110, 111, 116, 104, 105, 110, 103, 63] := by
  have e1 : (#[.int .u8 74, .int .u8 101, .int .u8 102, .int .u8 101] : Array Value) = (([74, 101, 102, 101] : List UInt8).map B).toArray := rfl
  have e2 : (#[.int .u8 119, .int .u8 104, .int .u8 97, .int .u8 116, .int .u8 32, .int .u8 100, .int .u8 111, .int .u8 32, .int .u8 121, .int .u8 97, .int .u8 32, .int .u8 119, .int .u8 97, .int .u8 110, .int .u8 116, .int .u8 32, .int .u8 102, .int .u8 111, .int .u8 114, .int .u8 32, .int .u8 110, .int .u8 111, .int .u8 116, .int .u8 104, .int .u8 105, .int .u8 110, .int .u8 103, .int .u8 63] : Array Value) = (([119, 104, 97, 116, 32, 100, 111, 32, 121, 97, 32, 119, 97, 110, 116, 32, 102, 111, 114, 32, 110, 111, 116, 104, 105, 110, 103, 63] : List UInt8).map B).toArray := rfl
  rw [e1, e2] at hW
  obtain ⟨w1, hw1⟩ : ∃ w1, w1 = w.alloc (.cells (([74, 101, 102, 101] : List UInt8).map B).toArray t f1) := ⟨_, rfl⟩
  rw [← hw1] at hW
  have h1 : Below w.heap.size w w1 := by rw [hw1]; exact alloc_below _ _
  have h2 : Below w1.heap.size w1 W := by rw [hW]; exact alloc_below _ _
  have s1 : w1.heap.size = w.heap.size + 1 := by rw [hw1]; exact alloc_size _ _
  refine ⟨h1.trans (h2.mono (by omega)), ?_, ?_⟩
  · have := const_rd w [74, 101, 102, 101] t f1
    rw [← hw1] at this
    exact this.below h2 (Nat.le_refl _)
  · have := const_rd w1 [119, 104, 97, 116, 32, 100, 111, 32, 121, 97, 32, 119, 97, 110, 116, 32, 102, 111, 114, 32, 110, 111, 116, 104, 105, 110, 103, 63] t f2
    rw [← hW, s1] at this
    exact this

set_option maxRecDepth 100000 in
set_option maxHeartbeats 1000000 in
theorem started5_any (w : World) (T : Tb w) : Calls Tryd.prog 31 #[] w fun e w' => e = .returned (.bool true) ∧ Below w.heap.size w w' := by
  have HT : Hid (Tb w) := T
  have kc := fun (w : World) (C : Array Value) (n c : Nat) => Lib.run_convert_bytes_const (P := Tryd.prog) w 23 5 C n c Tryd.underlying23 Tryd.underlying5
  have kc2 : ∀ (w : World) (C1 : Array Value) (f1 : Nat × Nat) (C : Array Value) (n c : Nat), Sem.run Tryd.prog (convert 23 23 (.slice (some ⟨w.heap.size + 1, 0, none⟩) n c)) ((w.alloc (.cells C1 5 f1)).alloc (.cells C 5)) = .ok (.slice (some ⟨w.heap.size + 1, 0, none⟩) n c) ((w.alloc (.cells C1 5 f1)).alloc (.cells C 5 (C.size, C.size + 1))) := fun w C1 f1 C n c => by
    have h := kc (w.alloc (.cells C1 5 f1)) C n c
    rw [alloc_size] at h
    exact h
  clear T
  go_enter Tryd.func31, Tryd.ntmps31
  go_wp2_with fail
  obtain ⟨x1, hx1⟩ : ∃ W, W = (w.alloc (.cells #[.int .u8 74, .int .u8 101, .int .u8 102, .int .u8 101] 5 (4, 5))).alloc (.cells #[.int .u8 119, .int .u8 104, .int .u8 97, .int .u8 116, .int .u8 32, .int .u8 100, .int .u8 111, .int .u8 32, .int .u8 121, .int .u8 97, .int .u8 32, .int .u8 119, .int .u8 97, .int .u8 110, .int .u8 116, .int .u8 32, .int .u8 102, .int .u8 111, .int .u8 114, .int .u8 32, .int .u8 110, .int .u8 111, .int .u8 116, .int .u8 104, .int .u8 105, .int .u8 110, .int .u8 103, .int .u8 63] 5 (28, 29)) := ⟨_, rfl⟩
  obtain ⟨hb1, hj1, hd1⟩ := jd w x1 5 _ _ hx1
  rw [← hx1]
  refine (hsum_any 1 _ _ 4 28 [74, 101, 102, 101] [119, 104, 97, 116, 32, 100, 111, 32, 121, 97, 32, 119, 97, 110, 116, 32, 102, 111, 114, 32, 110, 111, 116, 104, 105, 110, 103, 63] x1 (HT.out.below hb1) hj1 hd1 (by decide) (by decide) (by decide) (by decide) (by decide) (by decide)).mono ?_
  rintro e w1 ⟨a1, rfl, ho1, hq1⟩
  rw [jefe] at ho1
  obtain ⟨g1, rfl, hg1, hcl1⟩ := own_bl ho1 (by decide)
  have HL1 : Hid (Bl 5 w1 g1 (([91, 220, 193, 70, 191, 96, 117, 78, 106, 4, 36, 38, 8, 149, 117, 199, 90, 0, 63, 8, 157, 39, 57, 131, 157, 236, 88, 185, 100, 236, 56, 67] : List UInt8).map B)) := hcl1
  have HB1 : Hid (Below w.heap.size w w1) := hb1.trans (hq1.mono hb1.size)
  have T1 : Hid (Tb w1) := HT.out.below HB1.out
  clear ho1 hcl1 hb1 hq1 hj1 hd1
  have hz1 : siz 1 = 32 := rfl
  rw [hz1]
  have c10 := HL1.out.cell 0 (by decide)
  have c11 := HL1.out.cell 31 (by decide)
  have d10 : w1.cell? ⟨g1, 0, none⟩ = some (.int .u8 91) := c10
  have d11 : w1.cell? ⟨g1, 31, none⟩ = some (.int .u8 67) := c11
  clear c10 c11 hx1 hz1
  have hgl : g1 < w1.heap.size := HL1.out.lt
  go_wp2_with fail
  obtain ⟨x2, hx2⟩ : ∃ W, W = (w1.alloc (.cells #[.int .u8 74, .int .u8 101, .int .u8 102, .int .u8 101] 5 (4, 5))).alloc (.cells #[.int .u8 119, .int .u8 104, .int .u8 97, .int .u8 116, .int .u8 32, .int .u8 100, .int .u8 111, .int .u8 32, .int .u8 121, .int .u8 97, .int .u8 32, .int .u8 119, .int .u8 97, .int .u8 110, .int .u8 116, .int .u8 32, .int .u8 102, .int .u8 111, .int .u8 114, .int .u8 32, .int .u8 110, .int .u8 111, .int .u8 116, .int .u8 104, .int .u8 105, .int .u8 110, .int .u8 103, .int .u8 63] 5 (28, 29)) := ⟨_, rfl⟩
  obtain ⟨hb2, hj2, hd2⟩ := jd w1 x2 5 _ _ hx2
  rw [← hx2]
  refine (check_any 1 _ _ (some ⟨g1, 0, none⟩) 4 28 32 [74, 101, 102, 101] [119, 104, 97, 116, 32, 100, 111, 32, 121, 97, 32, 119, 97, 110, 116, 32, 102, 111, 114, 32, 110, 111, 116, 104, 105, 110, 103, 63] [91, 220, 193, 70, 191, 96, 117, 78, 106, 4, 36, 38, 8, 149, 117, 199, 90, 0, 63, 8, 157, 39, 57, 131, 157, 236, 88, 185, 100, 236, 56, 67] x2 (T1.out.below hb2) hj2 hd2 (bl_rd (HL1.out.below hb2 hgl)) (by decide) (by decide) (by decide) (by decide) (by decide) (by decide) (by decide)).mono ?_
  rintro e w2 ⟨rfl, hq2⟩
  have hz2 : decide (0 < siz 1 ∧ tagF 1 [74, 101, 102, 101] [119, 104, 97, 116, 32, 100, 111, 32, 121, 97, 32, 119, 97, 110, 116, 32, 102, 111, 114, 32, 110, 111, 116, 104, 105, 110, 103, 63] = [91, 220, 193, 70, 191, 96, 117, 78, 106, 4, 36, 38, 8, 149, 117, 199, 90, 0, 63, 8, 157, 39, 57, 131, 157, 236, 88, 185, 100, 236, 56, 67]) = true := by rw [jefe]; rfl
  rw [hz2]
  have HB12 : Hid (Below w1.heap.size w1 w2) := hb2.trans (hq2.mono hb2.size)
  have HL2 : Hid (Bl 5 w2 g1 (([91, 220, 193, 70, 191, 96, 117, 78, 106, 4, 36, 38, 8, 149, 117, 199, 90, 0, 63, 8, 157, 39, 57, 131, 157, 236, 88, 185, 100, 236, 56, 67] : List UInt8).map B)) := HL1.out.below HB12.out hgl
  have HB2 : Hid (Below w.heap.size w w2) := HB1.out.trans (HB12.out.mono HB1.out.size)
  clear hb2 hj2 hd2 hq2 hz2 HB12 HL1 hx2 d10 d11 kc kc2
  have C3 := equal_any (some ⟨g1, 0, none⟩) (some ⟨g1, 0, none⟩) 32 32 [91, 220, 193, 70, 191, 96, 117, 78, 106, 4, 36, 38, 8, 149, 117, 199, 90, 0, 63, 8, 157, 39, 57, 131, 157, 236, 88, 185, 100, 236, 56, 67] [91, 220, 193, 70, 191, 96, 117, 78, 106, 4, 36, 38, 8, 149, 117, 199, 90, 0, 63, 8, 157, 39, 57, 131, 157, 236, 88, 185, 100, 236, 56, 67] w2 (bl_rd HL2.out) (bl_rd HL2.out) (by decide) (by decide)
  have C4 := equal_any (some ⟨g1, 0, none⟩) none 32 0 [91, 220, 193, 70, 191, 96, 117, 78, 106, 4, 36, 38, 8, 149, 117, 199, 90, 0, 63, 8, 157, 39, 57, 131, 157, 236, 88, 185, 100, 236, 56, 67] [] w2 (bl_rd HL2.out) (.inl rfl) (by decide) (by decide)
  rw [show decide (([91, 220, 193, 70, 191, 96, 117, 78, 106, 4, 36, 38, 8, 149, 117, 199, 90, 0, 63, 8, 157, 39, 57, 131, 157, 236, 88, 185, 100, 236, 56, 67] : List UInt8) = [91, 220, 193, 70, 191, 96, 117, 78, 106, 4, 36, 38, 8, 149, 117, 199, 90, 0, 63, 8, 157, 39, 57, 131, 157, 236, 88, 185, 100, 236, 56, 67]) = true from rfl] at C3
  rw [show decide (([91, 220, 193, 70, 191, 96, 117, 78, 106, 4, 36, 38, 8, 149, 117, 199, 90, 0, 63, 8, 157, 39, 57, 131, 157, 236, 88, 185, 100, 236, 56, 67] : List UInt8) = []) = false from rfl] at C4
  go_wp2_with fail
  refine C3.mono ?_
  rintro e w3 ⟨rfl, hw3⟩
  subst w3
  go_wp2_with fail
  refine C4.mono ?_
  rintro e w3 ⟨rfl, hw3⟩
  subst w3
  clear C3 C4
  go_wp2
  go_ret
  exact ⟨rfl, HB2.out⟩

end Go.Proofs.YtibgpcheembdkaaDoor
