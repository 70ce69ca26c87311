import Derived.Test.YtibgpcheembdkaaDoorHm1
namespace Go.Proofs.YtibgpcheembdkaaDoor
open Go.RowKit

set_option maxHeartbeats 2000000 in
/-- The filled key. -/
theorem hfilled_any (h : Int) (a : Option Addr) (c : Nat) (key : List UInt8) (w : World) (T : Tb w) (hr : Rd w a key) (hc : key.length ≤ c) (hc2 : c ≤ 9223372036854775807) (hl : key.length < 2305843009213693952) :
    Calls Tryd.prog 53 #[.int .i64 h, .slice a key.length c] w fun e w' => e = .returned (.slice (some ⟨w.heap.size, 0, none⟩) (blk h) (blk h)) ∧ Bl 5 w' w.heap.size ((filF h key).map B) ∧ Below w.heap.size w w' := by
  have hbl := blk_le h
  have hsl := siz_le h
  obtain ⟨wm, hmk, hcm, hbm⟩ := made w (blk h) (by omega)
  have HT : Hid (Tb w) := T
  have HR : Hid (Rd w a key) := hr
  have CB := block_any h w
  obtain ⟨N, hN⟩ : ∃ N, blk h = N := ⟨_, rfl⟩
  rw [hN] at CB hmk hcm
  have HC0 : Hid (Bl 5 wm w.heap.size ((List.replicate N (0 : UInt8)).map B)) := hcm
  have HB0 : Hid (Below w.heap.size w wm) := hbm
  clear T hr hcm hbm
  by_cases hlong : N < key.length
  · have hKF : (List.range N).map (fun i => (sumF h key).getD i 0) = filF h key := by
      unfold filF keyF
      rw [hN, if_pos hlong]
    have HF : Hid (True → (List.range N).map (fun i => (sumF h key).getD i 0) = filF h key) := fun _ => hKF
    have hNl : N ≤ 128 := by omega
    rw [hN]
    have HN : Hid (True → blk h = N) := fun _ => hN
    clear hKF hN hbl
    go_enter Tryd.func53, Tryd.ntmps53
    go_wp2_with fail
    refine CB.mono ?_
    rintro e w1 ⟨rfl, hw1⟩
    subst w1
    clear CB
    go_wp2_with fail
    clear hmk
    have hp := pts1 wm 23 ⟨a, c, key⟩ ⟨HR.out.below HB0.out (Nat.le_refl _), hc, hc2⟩
    have hb3 := alloc_below wm (.cells #[prV ⟨a, c, key⟩] 23)
    have hsz := alloc_size wm (.cells #[prV ⟨a, c, key⟩] 23)
    dsimp only [prV] at hp hb3 hsz
    have C := ssum_any h (some ⟨wm.heap.size, 0, none⟩) 1 [⟨a, c, key⟩] _ ((HT.out.below HB0.out).below hb3) hp (by simp) (by rw [cat1]; exact hl)
    rw [cat1] at C
    refine C.mono ?_
    rintro e w2 ⟨aK, rfl, hown, hb2⟩
    have HBm : Hid (Below wm.heap.size wm w2) := hb3.trans (hb2.mono hb3.size)
    have HG : Hid (True → w.heap.size = w.heap.size) := fun _ => rfl
    have hltG : w.heap.size < wm.heap.size := HC0.out.lt
    have HO2 : Hid (Off aK (sumF h key) w.heap.size) := fun x hne e => by
      rcases hown with ⟨_, h0⟩ | ⟨g, e2, hg, _⟩
      · exact absurd h0 hne
      · rw [e] at e2
        cases e2
        show g ≠ _
        omega
    have HR2 : Hid (Rd w2 aK (sumF h key)) := hown.rd
    have HC2 : Hid (Bl 5 w2 w.heap.size (((List.range 0).map (fun i => (sumF h key).getD i 0) ++ List.replicate (N - 0) 0).map B)) := HC0.out.below HBm.out hltG
    have HB2 : Hid (Below w.heap.size w w2) := HB0.out.trans (HBm.out.mono HB0.out.size)
    have hKl : (sumF h key).length = siz h := sumF_length h key
    clear hp hb3 C hown hb2 hsz HC0 HB0 HBm HG
    obtain ⟨cK, hcK⟩ : ∃ cK, cK = siz h := ⟨_, rfl⟩
    rw [← hcK] at hKl hsl
    rw [← hcK]
    clear hcK
    generalize sumF h key = KK at *
    have HKl : Hid (True → KK.length = cK) := fun _ => hKl
    clear hKl
    obtain ⟨G, hG⟩ : ∃ G, w.heap.size = G := ⟨_, rfl⟩
    have HG : Hid (True → w.heap.size = G) := fun _ => hG
    rw [hG] at HO2 HC2 hltG ⊢
    clear hG
    go_wp2
    go_loopw [21] (fun s ws => ∃ k : Nat, s = .int .i64 (k : Int) ∧ k ≤ N ∧ Hid (Bl 5 ws G (((List.range k).map (fun i => KK.getD i 0) ++ List.replicate (N - k) 0).map B)) ∧ Hid (But w2 ws G)) (fun s _ => N - (intOf s).toNat)
    case atStart => exact ⟨0, rfl, by omega, HC2, But.refl _ _⟩
    case round =>
      clear HC2
      obtain ⟨k, rfl, hk, hcl, hbut⟩ := hrel
      by_cases hlt : k < N
      · have C := at_any aK cK KK k wr (HR2.out.but hbut.out HO2.out) (by omega) (by rw [HKl.out trivial]; omega)
        have gf := hcl.out.frozen k
        obtain ⟨old, gc⟩ : ∃ v, wr.cell? ⟨G, k, none⟩ = some v := ⟨_, hcl.out.cell k (by simp; omega)⟩
        have Hs : Hid (True → (((List.range k).map (fun i => KK.getD i 0) ++ List.replicate (N - k) 0).map B).set k (B (KK.getD k 0)) = (((List.range (k + 1)).map (fun i => KK.getD i 0) ++ List.replicate (N - (k + 1)) 0).map B)) := fun _ => made_set (fun i => KK.getD i 0) N k _ hlt rfl
        rw [HKl.out trivial] at C
        go_wp2_with fail
        refine C.mono ?_
        rintro e w9 ⟨rfl, hw9⟩
        subst w9
        clear C
        unfold B
        go_wp2
        refine ⟨⟨k + 1, by go_num, by omega, ?_, hbut.out.set _ _⟩, by simp [intOf]; omega⟩
        have h1 := hcl.out.set k (B (KK.getD k 0))
        rw [Hs.out trivial] at h1
        exact h1
      · obtain rfl : k = N := by omega
        go_wp2
        go_ret
        refine ⟨by rw [HG.out trivial]; rfl, ?_, HB2.out.trans (hbut.out.below HB2.out.size (by rw [HG.out trivial]; exact Nat.le_refl _))⟩
        have h1 := hcl.out
        rw [Nat.sub_self, List.replicate_zero, List.append_nil] at h1
        rw [← HF.out trivial, HG.out trivial]
        exact h1
  · have hKF : (List.range N).map (fun i => key.getD i 0) = filF h key := by
      unfold filF keyF
      rw [hN, if_neg (by omega)]
    have HF : Hid (True → (List.range N).map (fun i => key.getD i 0) = filF h key) := fun _ => hKF
    have hNl : N ≤ 128 := by omega
    rw [hN]
    have HN : Hid (True → blk h = N) := fun _ => hN
    clear hKF hN hbl
    obtain ⟨w2, hw2⟩ : ∃ w2, w2 = wm := ⟨_, rfl⟩
    obtain ⟨cK, hcK⟩ : ∃ cK, cK = c := ⟨_, rfl⟩
    obtain ⟨aK, haK⟩ : ∃ aK, aK = a := ⟨_, rfl⟩
    have HO2 : Hid (Off aK key w.heap.size) := haK ▸ HR.out.off _ (Nat.le_refl _)
    have HR2 : Hid (Rd w2 aK key) := by rw [haK, hw2]; exact HR.out.below HB0.out (Nat.le_refl _)
    have HC2 : Hid (Bl 5 w2 w.heap.size (((List.range 0).map (fun i => key.getD i 0) ++ List.replicate (N - 0) 0).map B)) := by rw [hw2]; exact HC0.out
    have HB2 : Hid (Below w.heap.size w w2) := by rw [hw2]; exact HB0.out
    rw [← hw2] at hmk
    rw [← haK, ← hcK]
    clear hw2 hcK haK HC0 HB0 HR HT
    obtain ⟨KK, hKK⟩ : ∃ KK, key = KK := ⟨_, rfl⟩
    rw [hKK] at HO2 HR2 HC2 HF hlong hl ⊢
    obtain ⟨nK, hnK⟩ : ∃ nK, KK.length = nK := ⟨_, rfl⟩
    have HKl : Hid (True → KK.length = nK) := fun _ => hnK
    rw [hnK] at hl hlong
    rw [hnK]
    clear hnK hc hc2
    go_enter Tryd.func53, Tryd.ntmps53
    go_wp2_with fail
    refine CB.mono ?_
    rintro e w1 ⟨rfl, hw1⟩
    subst w1
    clear CB
    obtain ⟨G, hG⟩ : ∃ G, w.heap.size = G := ⟨_, rfl⟩
    have HG : Hid (True → w.heap.size = G) := fun _ => hG
    rw [hG] at HO2 HC2 hmk
    clear hG
    go_wp2
    clear hmk
    go_loopw [21] (fun s ws => ∃ k : Nat, s = .int .i64 (k : Int) ∧ k ≤ N ∧ Hid (Bl 5 ws G (((List.range k).map (fun i => KK.getD i 0) ++ List.replicate (N - k) 0).map B)) ∧ Hid (But w2 ws G)) (fun s _ => N - (intOf s).toNat)
    case atStart => exact ⟨0, rfl, by omega, HC2, But.refl _ _⟩
    case round =>
      clear HC2
      obtain ⟨k, rfl, hk, hcl, hbut⟩ := hrel
      by_cases hlt : k < N
      · have C := at_any aK cK KK k wr (HR2.out.but hbut.out HO2.out) (by omega) (by rw [HKl.out trivial]; omega)
        have gf := hcl.out.frozen k
        obtain ⟨old, gc⟩ : ∃ v, wr.cell? ⟨G, k, none⟩ = some v := ⟨_, hcl.out.cell k (by simp; omega)⟩
        have Hs : Hid (True → (((List.range k).map (fun i => KK.getD i 0) ++ List.replicate (N - k) 0).map B).set k (B (KK.getD k 0)) = (((List.range (k + 1)).map (fun i => KK.getD i 0) ++ List.replicate (N - (k + 1)) 0).map B)) := fun _ => made_set (fun i => KK.getD i 0) N k _ hlt rfl
        rw [HKl.out trivial] at C
        go_wp2_with fail
        refine C.mono ?_
        rintro e w9 ⟨rfl, hw9⟩
        subst w9
        clear C
        unfold B
        go_wp2
        refine ⟨⟨k + 1, by go_num, by omega, ?_, hbut.out.set _ _⟩, by simp [intOf]; omega⟩
        have h1 := hcl.out.set k (B (KK.getD k 0))
        rw [Hs.out trivial] at h1
        exact h1
      · obtain rfl : k = N := by omega
        go_wp2
        go_ret
        refine ⟨by rw [HG.out trivial]; rfl, ?_, HB2.out.trans (hbut.out.below HB2.out.size (by rw [HG.out trivial]; exact Nat.le_refl _))⟩
        have h1 := hcl.out
        rw [Nat.sub_self, List.replicate_zero, List.append_nil] at h1
        rw [← HF.out trivial, HG.out trivial]
        exact h1
end Go.Proofs.YtibgpcheembdkaaDoor
