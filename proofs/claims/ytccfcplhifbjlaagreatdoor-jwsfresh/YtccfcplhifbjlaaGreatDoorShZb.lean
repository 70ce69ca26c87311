import Derived.Test.YtccfcplhifbjlaaGreatDoorShZa
namespace Go.Proofs.YtccfcplhifbjlaaGreatDoor.Sha
open Go.RowKit
set_option maxRecDepth 100000

set_option maxHeartbeats 2000000 in
/-- The filled key. -/
theorem hfilled_any (h : Int) (a : Option Addr) (c : Nat) (key : List UInt8) (w : World) (T : Tb w) (hr : Rd w a key) (hc : key.length ≤ c) (hc2 : c ≤ 9223372036854775807) (hl : key.length < 2305843009213693952) :
    Calls Tryz.prog 89 #[.int .i64 h, .slice a key.length c] w fun e w' => e = .returned (.slice (some ⟨w.heap.size, 0, none⟩) (blk h) (blk h)) ∧ Bl 5 w' w.heap.size ((filF h key).map B) ∧ Below w.heap.size w w' := by
  have hbl := blk_le h
  have hsl := siz_le h
  obtain ⟨wm, hmk, hcm, hbm⟩ := made w (blk h) (by omega)
  have HT : Hid (Tb w) := T
  have HR : Hid (Rd w a key) := hr
  have CB := block_any h w
  obtain ⟨N, hN⟩ : ∃ N, blk h = N := ⟨_, rfl⟩
  rw [hN] at CB hmk hcm
  have HC0 : Hid (Bl 5 wm w.heap.size ((List.replicate N (0 : UInt8)).map B)) := hcm
  have HB0 : Hid (Below w.heap.size w wm) := hbm
  clear T hr hcm hbm
  by_cases hlong : N < key.length
  · have hKF : (List.range N).map (fun i => (sumF h key).getD i 0) = filF h key := by
      unfold filF keyF
      rw [hN, if_pos hlong]
    have HF : Hid (True → (List.range N).map (fun i => (sumF h key).getD i 0) = filF h key) := fun _ => hKF
    have hNl : N ≤ 128 := by omega
    rw [hN]
    have HN : Hid (True → blk h = N) := fun _ => hN
    clear hKF hN hbl
    go_enter Tryz.func89, Tryz.ntmps89
    go_wp2_with fail
    refine CB.mono ?_
    rintro e w1 ⟨rfl, hw1⟩
    subst w1
    clear CB
    go_wp2_with fail
    clear hmk
    have hp := pts1 wm 30 ⟨a, c, key⟩ ⟨HR.out.below HB0.out (Nat.le_refl _), hc, hc2⟩
    have hb3 := alloc_below wm (.cells #[prV ⟨a, c, key⟩] 30)
    have hsz := alloc_size wm (.cells #[prV ⟨a, c, key⟩] 30)
    dsimp only [prV] at hp hb3 hsz
    have C := ssum_any h (some ⟨wm.heap.size, 0, none⟩) 1 [⟨a, c, key⟩] _ ((HT.out.below HB0.out).below hb3) hp (by simp) (by rw [cat1]; exact hl)
    rw [cat1] at C
    refine C.mono ?_
    rintro e w2 ⟨aK, rfl, hown, hb2⟩
    have HBm : Hid (Below wm.heap.size wm w2) := hb3.trans (hb2.mono hb3.size)
    have HG : Hid (True → w.heap.size = w.heap.size) := fun _ => rfl
    have hltG : w.heap.size < wm.heap.size := HC0.out.lt
    have HO2 : Hid (Off aK (sumF h key) w.heap.size) := fun x hne e => by
      rcases hown with ⟨_, h0⟩ | ⟨g, e2, hg, _⟩
      · exact absurd h0 hne
      · rw [e] at e2
        cases e2
        show g ≠ _
        omega
    have HR2 : Hid (Rd w2 aK (sumF h key)) := hown.rd
    have HC2 : Hid (Bl 5 w2 w.heap.size (((List.range 0).map (fun i => (sumF h key).getD i 0) ++ List.replicate (N - 0) 0).map B)) := HC0.out.below HBm.out hltG
    have HB2 : Hid (Below w.heap.size w w2) := HB0.out.trans (HBm.out.mono HB0.out.size)
    have hKl : (sumF h key).length = siz h := sumF_length h key
    clear hp hb3 C hown hb2 hsz HC0 HB0 HBm HG
    obtain ⟨cK, hcK⟩ : ∃ cK, cK = siz h := ⟨_, rfl⟩
    rw [← hcK] at hKl hsl
    rw [← hcK]
    clear hcK
    generalize sumF h key = KK at *
    have HKl : Hid (True → KK.length = cK) := fun _ => hKl
    clear hKl
    obtain ⟨G, hG⟩ : ∃ G, w.heap.size = G := ⟨_, rfl⟩
    have HG : Hid (True → w.heap.size = G) := fun _ => hG
    rw [hG] at HO2 HC2 hltG ⊢
    clear hG
    go_wp2
    go_loopw [21] (fun s ws => ∃ k : Nat, s = .int .i64 (k : Int) ∧ k ≤ N ∧ Hid (Bl 5 ws G (((List.range k).map (fun i => KK.getD i 0) ++ List.replicate (N - k) 0).map B)) ∧ Hid (But w2 ws G)) (fun s _ => N - (intOf s).toNat)
    case atStart => exact ⟨0, rfl, by omega, HC2, But.refl _ _⟩
    case round =>
      clear HC2
      obtain ⟨k, rfl, hk, hcl, hbut⟩ := hrel
      by_cases hlt : k < N
      · have C := at_any aK cK KK k wr (HR2.out.but hbut.out HO2.out) (by omega) (by rw [HKl.out trivial]; omega)
        have gf := hcl.out.frozen k
        obtain ⟨old, gc⟩ : ∃ v, wr.cell? ⟨G, k, none⟩ = some v := ⟨_, hcl.out.cell k (by simp; omega)⟩
        have Hs : Hid (True → (((List.range k).map (fun i => KK.getD i 0) ++ List.replicate (N - k) 0).map B).set k (B (KK.getD k 0)) = (((List.range (k + 1)).map (fun i => KK.getD i 0) ++ List.replicate (N - (k + 1)) 0).map B)) := fun _ => made_set (fun i => KK.getD i 0) N k _ hlt rfl
        rw [HKl.out trivial] at C
        go_wp2_with fail
        refine C.mono ?_
        rintro e w9 ⟨rfl, hw9⟩
        subst w9
        clear C
        unfold B
        go_wp2
        refine ⟨⟨k + 1, by go_num, by omega, ?_, hbut.out.set _ _⟩, by simp [intOf]; omega⟩
        have h1 := hcl.out.set k (B (KK.getD k 0))
        rw [Hs.out trivial] at h1
        exact h1
      · obtain rfl : k = N := by omega
        go_wp2
        go_ret
        refine ⟨by rw [HG.out trivial]; rfl, ?_, HB2.out.trans (hbut.out.below HB2.out.size (by rw [HG.out trivial]; exact Nat.le_refl _))⟩
        have h1 := hcl.out
        rw [Nat.sub_self, List.replicate_zero, List.append_nil] at h1
        rw [← HF.out trivial, HG.out trivial]
        exact h1
  · have hKF : (List.range N).map (fun i => key.getD i 0) = filF h key := by
      unfold filF keyF
      rw [hN, if_neg (by omega)]
    have HF : Hid (True → (List.range N).map (fun i => key.getD i 0) = filF h key) := fun _ => hKF
    have hNl : N ≤ 128 := by omega
    rw [hN]
    have HN : Hid (True → blk h = N) := fun _ => hN
    clear hKF hN hbl
    obtain ⟨w2, hw2⟩ : ∃ w2, w2 = wm := ⟨_, rfl⟩
    obtain ⟨cK, hcK⟩ : ∃ cK, cK = c := ⟨_, rfl⟩
    obtain ⟨aK, haK⟩ : ∃ aK, aK = a := ⟨_, rfl⟩
    have HO2 : Hid (Off aK key w.heap.size) := haK ▸ HR.out.off _ (Nat.le_refl _)
    have HR2 : Hid (Rd w2 aK key) := by rw [haK, hw2]; exact HR.out.below HB0.out (Nat.le_refl _)
    have HC2 : Hid (Bl 5 w2 w.heap.size (((List.range 0).map (fun i => key.getD i 0) ++ List.replicate (N - 0) 0).map B)) := by rw [hw2]; exact HC0.out
    have HB2 : Hid (Below w.heap.size w w2) := by rw [hw2]; exact HB0.out
    rw [← hw2] at hmk
    rw [← haK, ← hcK]
    clear hw2 hcK haK HC0 HB0 HR HT
    obtain ⟨KK, hKK⟩ : ∃ KK, key = KK := ⟨_, rfl⟩
    rw [hKK] at HO2 HR2 HC2 HF hlong hl ⊢
    obtain ⟨nK, hnK⟩ : ∃ nK, KK.length = nK := ⟨_, rfl⟩
    have HKl : Hid (True → KK.length = nK) := fun _ => hnK
    rw [hnK] at hl hlong
    rw [hnK]
    clear hnK hc hc2
    go_enter Tryz.func89, Tryz.ntmps89
    go_wp2_with fail
    refine CB.mono ?_
    rintro e w1 ⟨rfl, hw1⟩
    subst w1
    clear CB
    obtain ⟨G, hG⟩ : ∃ G, w.heap.size = G := ⟨_, rfl⟩
    have HG : Hid (True → w.heap.size = G) := fun _ => hG
    rw [hG] at HO2 HC2 hmk
    clear hG
    go_wp2
    clear hmk
    go_loopw [21] (fun s ws => ∃ k : Nat, s = .int .i64 (k : Int) ∧ k ≤ N ∧ Hid (Bl 5 ws G (((List.range k).map (fun i => KK.getD i 0) ++ List.replicate (N - k) 0).map B)) ∧ Hid (But w2 ws G)) (fun s _ => N - (intOf s).toNat)
    case atStart => exact ⟨0, rfl, by omega, HC2, But.refl _ _⟩
    case round =>
      clear HC2
      obtain ⟨k, rfl, hk, hcl, hbut⟩ := hrel
      by_cases hlt : k < N
      · have C := at_any aK cK KK k wr (HR2.out.but hbut.out HO2.out) (by omega) (by rw [HKl.out trivial]; omega)
        have gf := hcl.out.frozen k
        obtain ⟨old, gc⟩ : ∃ v, wr.cell? ⟨G, k, none⟩ = some v := ⟨_, hcl.out.cell k (by simp; omega)⟩
        have Hs : Hid (True → (((List.range k).map (fun i => KK.getD i 0) ++ List.replicate (N - k) 0).map B).set k (B (KK.getD k 0)) = (((List.range (k + 1)).map (fun i => KK.getD i 0) ++ List.replicate (N - (k + 1)) 0).map B)) := fun _ => made_set (fun i => KK.getD i 0) N k _ hlt rfl
        rw [HKl.out trivial] at C
        go_wp2_with fail
        refine C.mono ?_
        rintro e w9 ⟨rfl, hw9⟩
        subst w9
        clear C
        unfold B
        go_wp2
        refine ⟨⟨k + 1, by go_num, by omega, ?_, hbut.out.set _ _⟩, by simp [intOf]; omega⟩
        have h1 := hcl.out.set k (B (KK.getD k 0))
        rw [Hs.out trivial] at h1
        exact h1
      · obtain rfl : k = N := by omega
        go_wp2
        go_ret
        refine ⟨by rw [HG.out trivial]; rfl, ?_, HB2.out.trans (hbut.out.below HB2.out.size (by rw [HG.out trivial]; exact Nat.le_refl _))⟩
        have h1 := hcl.out
        rw [Nat.sub_self, List.replicate_zero, List.append_nil] at h1
        rw [← HF.out trivial, HG.out trivial]
        exact h1
end Go.Proofs.YtccfcplhifbjlaaGreatDoor.Sha
namespace Go.Proofs.YtccfcplhifbjlaaGreatDoor.Sha
open Go.RowKit
set_option maxRecDepth 100000

theorem max_cast (a b : Nat) : (max (a : Int) (b : Int)) = ((max a b : Nat) : Int) := by omega

set_option maxHeartbeats 2000000 in
theorem equal_any (a1 a2 : Option Addr) (c1 c2 : Nat) (l1 l2 : List UInt8) (w : World) (h1 : Rd w a1 l1) (h2 : Rd w a2 l2) (hl1 : l1.length ≤ 1152921504606846976) (hl2 : l2.length ≤ 1152921504606846976) :
    Calls Tryz.prog 41 #[.slice a1 l1.length c1, .slice a2 l2.length c2] w fun e w' => e = .returned (.bool (decide (l1 = l2))) ∧ w' = w := by
  have hx0 := i64_xor_nat l1.length l2.length (by omega) (by omega)
  have hb0 : l1.length ^^^ l2.length < 2 ^ 62 := Nat.xor_lt_two_pow (by omega) (by omega)
  have HI0 : Hid (l1.length ^^^ l2.length = 0 ↔ (l1.length = l2.length ∧ ∀ j, j < 0 → l1.getD j 0 = l2.getD j 0)) := by
    rw [xor_zero_iff]
    exact ⟨fun h => ⟨h, fun j hj => absurd hj (Nat.not_lt_zero j)⟩, fun h => h.1⟩
  have HR1 : Hid (Rd w a1 l1) := h1
  have HR2 : Hid (Rd w a2 l2) := h2
  clear h1 h2
  rcases Nat.lt_or_ge l1.length l2.length with hcmp | hcmp
  · have HE : Hid (True → ((l1.length = l2.length ∧ ∀ j, j < l2.length → l1.getD j 0 = l2.getD j 0) ↔ l1 = l2)) := fun _ => list_eq_iff l1 l2 l2.length (by omega)
    generalize l1.length ^^^ l2.length = u0 at *
    go_enter Tryz.func41, Tryz.ntmps41
    go_wp2
    clear hx0
    go_loopw [5, 17] (fun s5 s ws => ∃ k u : Nat, s = .int .i64 (k : Int) ∧ k ≤ l2.length ∧ s5 = .int .i64 (u : Int) ∧ u < 2 ^ 62 ∧ Hid (u = 0 ↔ (l1.length = l2.length ∧ ∀ j, j < k → l1.getD j 0 = l2.getD j 0)) ∧ ws = w) (fun _ s _ => l2.length - (intOf s).toNat)
    case atStart => exact ⟨0, u0, rfl, by omega, rfl, hb0, HI0, rfl⟩
    case round =>
      clear HI0
      obtain ⟨k, u, rfl, hk, rfl, hu, hiff, rfl⟩ := hrel
      by_cases hlt : k < l2.length
      · have C1 := at_any a1 c1 l1 k wr HR1.out (by omega) (by omega)
        have C2 := at_any a2 c2 l2 k wr HR2.out (by omega) (by omega)
        have hz := xorB (l1.getD k 0) (l2.getD k 0)
        have Hz : Hid (l1.getD k 0 ^^^ l2.getD k 0 = 0 ↔ l1.getD k 0 = l2.getD k 0) := xor_zero_byte _ _
        obtain ⟨z, hzz⟩ : ∃ z, l1.getD k 0 ^^^ l2.getD k 0 = z := ⟨_, rfl⟩
        rw [hzz] at hz Hz
        have hzl := z.toNat_lt
        have ho := i64_or_nat u z.toNat (by omega) (by omega)
        have hb2 : u ||| z.toNat < 2 ^ 62 := Nat.or_lt_two_pow hu (by omega)
        have HI2 : Hid (u ||| z.toNat = 0 ↔ (l1.length = l2.length ∧ ∀ j, j < k + 1 → l1.getD j 0 = l2.getD j 0)) := by
          rw [or_zero_iff, hiff.out]
          constructor
          · rintro ⟨⟨h1, h2⟩, h3⟩
            refine ⟨h1, fun j hj => ?_⟩
            rcases Nat.lt_or_ge j k with h4 | h4
            · exact h2 j h4
            · obtain rfl : j = k := by omega
              exact Hz.out.1 (by have : z = UInt8.ofNat z.toNat := by simp
                                 rw [this, h3]; rfl)
          · rintro ⟨h1, h2⟩
            refine ⟨⟨h1, fun j hj => h2 j (by omega)⟩, ?_⟩
            rw [Hz.out.2 (h2 k (by omega))]
            rfl
        have hwz : wrap64 (z.toNat : Int) = (z.toNat : Int) := by unfold wrap64; omega
        clear hzz Hz hiff
        unfold B at C1 C2
        generalize l1.getD k 0 = x at C1 hz
        generalize l2.getD k 0 = y at C2 hz
        go_wp2_with fail
        refine C1.mono ?_
        rintro e w9 ⟨rfl, hw9⟩
        subst w9
        clear C1
        go_wp2_with fail
        refine C2.mono ?_
        rintro e w9 ⟨rfl, hw9⟩
        subst w9
        clear C2
        go_wp2
        exact ⟨⟨k + 1, u ||| z.toNat, by go_num, by omega, rfl, hb2, HI2, trivial⟩, by simp [intOf]; omega⟩
      · obtain rfl : k = l2.length := by omega
        have Hd : Hid (decide (l1 = l2) = decide (u = 0)) := by
          show _ = _
          rw [decide_eq_decide, hiff.out]
          exact (HE.out trivial).symm
        have hu0 : ((u : Int) == 0) = decide (u = 0) := by
          by_cases h : u = 0
          · subst h; rfl
          · simp [h]
        go_wp2
        go_ret
        rw [Hd.out]
        exact ⟨rfl, rfl⟩

  · have HE : Hid (True → ((l1.length = l2.length ∧ ∀ j, j < l1.length → l1.getD j 0 = l2.getD j 0) ↔ l1 = l2)) := fun _ => list_eq_iff l1 l2 l1.length (by omega)
    generalize l1.length ^^^ l2.length = u0 at *
    go_enter Tryz.func41, Tryz.ntmps41
    go_wp2
    clear hx0
    go_loopw [5, 17] (fun s5 s ws => ∃ k u : Nat, s = .int .i64 (k : Int) ∧ k ≤ l1.length ∧ s5 = .int .i64 (u : Int) ∧ u < 2 ^ 62 ∧ Hid (u = 0 ↔ (l1.length = l2.length ∧ ∀ j, j < k → l1.getD j 0 = l2.getD j 0)) ∧ ws = w) (fun _ s _ => l1.length - (intOf s).toNat)
    case atStart => exact ⟨0, u0, rfl, by omega, rfl, hb0, HI0, rfl⟩
    case round =>
      clear HI0
      obtain ⟨k, u, rfl, hk, rfl, hu, hiff, rfl⟩ := hrel
      by_cases hlt : k < l1.length
      · have C1 := at_any a1 c1 l1 k wr HR1.out (by omega) (by omega)
        have C2 := at_any a2 c2 l2 k wr HR2.out (by omega) (by omega)
        have hz := xorB (l1.getD k 0) (l2.getD k 0)
        have Hz : Hid (l1.getD k 0 ^^^ l2.getD k 0 = 0 ↔ l1.getD k 0 = l2.getD k 0) := xor_zero_byte _ _
        obtain ⟨z, hzz⟩ : ∃ z, l1.getD k 0 ^^^ l2.getD k 0 = z := ⟨_, rfl⟩
        rw [hzz] at hz Hz
        have hzl := z.toNat_lt
        have ho := i64_or_nat u z.toNat (by omega) (by omega)
        have hb2 : u ||| z.toNat < 2 ^ 62 := Nat.or_lt_two_pow hu (by omega)
        have HI2 : Hid (u ||| z.toNat = 0 ↔ (l1.length = l2.length ∧ ∀ j, j < k + 1 → l1.getD j 0 = l2.getD j 0)) := by
          rw [or_zero_iff, hiff.out]
          constructor
          · rintro ⟨⟨h1, h2⟩, h3⟩
            refine ⟨h1, fun j hj => ?_⟩
            rcases Nat.lt_or_ge j k with h4 | h4
            · exact h2 j h4
            · obtain rfl : j = k := by omega
              exact Hz.out.1 (by have : z = UInt8.ofNat z.toNat := by simp
                                 rw [this, h3]; rfl)
          · rintro ⟨h1, h2⟩
            refine ⟨⟨h1, fun j hj => h2 j (by omega)⟩, ?_⟩
            rw [Hz.out.2 (h2 k (by omega))]
            rfl
        have hwz : wrap64 (z.toNat : Int) = (z.toNat : Int) := by unfold wrap64; omega
        clear hzz Hz hiff
        unfold B at C1 C2
        generalize l1.getD k 0 = x at C1 hz
        generalize l2.getD k 0 = y at C2 hz
        go_wp2_with fail
        refine C1.mono ?_
        rintro e w9 ⟨rfl, hw9⟩
        subst w9
        clear C1
        go_wp2_with fail
        refine C2.mono ?_
        rintro e w9 ⟨rfl, hw9⟩
        subst w9
        clear C2
        go_wp2
        exact ⟨⟨k + 1, u ||| z.toNat, by go_num, by omega, rfl, hb2, HI2, trivial⟩, by simp [intOf]; omega⟩
      · obtain rfl : k = l1.length := by omega
        have Hd : Hid (decide (l1 = l2) = decide (u = 0)) := by
          show _ = _
          rw [decide_eq_decide, hiff.out]
          exact (HE.out trivial).symm
        have hu0 : ((u : Int) == 0) = decide (u = 0) := by
          by_cases h : u = 0
          · subst h; rfl
          · simp [h]
        go_wp2
        go_ret
        rw [Hd.out]
        exact ⟨rfl, rfl⟩


end Go.Proofs.YtccfcplhifbjlaaGreatDoor.Sha
namespace Go.Proofs.YtccfcplhifbjlaaGreatDoor.Sha
open Go.RowKit
set_option maxRecDepth 100000

theorem bl_rd {w : World} {g : Nat} {l : List UInt8} (h : Bl 5 w g (l.map B)) : Rd w (some ⟨g, 0, none⟩) l := Own.rd (B0 := 0) (.inr ⟨g, rfl, Nat.zero_le _, h⟩)

set_option maxRecDepth 100000 in
set_option maxHeartbeats 2000000 in
/-- The tag of a text. -/
theorem hsum_any (h : Int) (ak ad : Option Addr) (ck cd : Nat) (key data : List UInt8) (w : World) (T : Tb w) (hk : Rd w ak key) (hd : Rd w ad data) (hck : key.length ≤ ck) (hck2 : ck ≤ 9223372036854775807) (hkl : key.length ≤ 1152921504606846976) (hcd : data.length ≤ cd) (hcd2 : cd ≤ 9223372036854775807) (hdl : data.length ≤ 1152921504606846976) :
    Calls Tryz.prog 40 #[.int .i64 h, .slice ak key.length ck, .slice ad data.length cd] w fun e w' => ∃ a, e = .returned (.slice a (siz h) (siz h)) ∧ Own w' w.heap.size a (tagF h key data) ∧ Below w.heap.size w w' := by
  have HT : Hid (Tb w) := T
  have HRd : Hid (Rd w ad data) := hd
  have hbl := blk_le h
  have hsl := siz_le h
  have C0 := hfilled_any h ak ck key w T hk hck (by omega) (by omega)
  have hFl := filF_length h key
  have Htag : Hid (True → tagF h key data = sumF h (mskF 92 (filF h key) ++ sumF h (mskF 54 (filF h key) ++ data))) := fun _ => rfl
  clear T hk hd
  generalize filF h key = F at *
  obtain ⟨N, hN⟩ : ∃ N, blk h = N := ⟨_, rfl⟩
  rw [hN] at C0 hFl hbl
  have HN : Hid (True → F.length = N) := fun _ => hFl
  clear hN hFl
  go_enter Tryz.func40, Tryz.ntmps40
  go_wp2_with fail
  refine C0.mono ?_
  rintro e w1 ⟨rfl, hc1, hb1⟩
  clear C0
  have HC1 : Hid (Bl 5 w1 w.heap.size (F.map B)) := hc1
  have HB1 : Hid (Below w.heap.size w w1) := hb1
  have hG1 : w.heap.size < w1.heap.size := hc1.lt
  have C1 := masked_any (some ⟨w.heap.size, 0, none⟩) N F 92 w1 (bl_rd hc1) (by rw [HN.out trivial]; omega)
  rw [HN.out trivial] at C1
  clear hc1 hb1
  go_wp2_with fail
  refine C1.mono ?_
  rintro e w2 ⟨rfl, hc2, hb2⟩
  clear C1
  have HC2 : Hid (Bl 5 w2 w1.heap.size ((mskF 92 F).map B)) := hc2
  have HC2F : Hid (Bl 5 w2 w.heap.size (F.map B)) := HC1.out.below hb2 hG1
  have HB2 : Hid (Below w.heap.size w w2) := HB1.out.trans (hb2.mono (by omega))
  have hG2 : w1.heap.size < w2.heap.size := hc2.lt
  have C2 := masked_any (some ⟨w.heap.size, 0, none⟩) N F 54 w2 (bl_rd HC2F.out) (by rw [HN.out trivial]; omega)
  rw [HN.out trivial] at C2
  clear hc2 hb2 HC1 HB1
  go_wp2_with fail
  refine C2.mono ?_
  rintro e w3 ⟨rfl, hc3, hb3⟩
  clear C2
  have HC3 : Hid (Bl 5 w3 w2.heap.size ((mskF 54 F).map B)) := hc3
  have HC3O : Hid (Bl 5 w3 w1.heap.size ((mskF 92 F).map B)) := HC2.out.below hb3 hG2
  have HB3 : Hid (Below w.heap.size w w3) := HB2.out.trans (hb3.mono (by omega))
  have hG3 : w2.heap.size < w3.heap.size := hc3.lt
  clear hc3 hb3 HC2 HC2F HB2
  go_wp2_with fail
  obtain ⟨p1, hp1⟩ : ∃ p1 : Prt, p1 = ⟨some ⟨w2.heap.size, 0, none⟩, N, mskF 54 F⟩ := ⟨_, rfl⟩
  obtain ⟨p2, hp2⟩ : ∃ p2 : Prt, p2 = ⟨ad, cd, data⟩ := ⟨_, rfl⟩
  have hpts := pts2 w3 30 p1 p2 (by rw [hp1]; exact ⟨bl_rd HC3.out, by show (mskF 54 F).length ≤ N; rw [mskF_length, HN.out trivial]; omega, by show N ≤ _; omega⟩) (by rw [hp2]; exact ⟨HRd.out.below HB3.out (Nat.le_refl _), hcd, by show cd ≤ _; omega⟩)
  have hb4 := alloc_below w3 (.cells #[prV p1, prV p2] 30)
  have hs4 := alloc_size w3 (.cells #[prV p1, prV p2] 30)
  have e1 : prV p1 = .slice (some ⟨w2.heap.size, 0, none⟩) N N := by rw [hp1]; unfold prV; rw [mskF_length, HN.out trivial]
  have e2 : prV p2 = .slice ad data.length cd := by rw [hp2]; rfl
  have ec : cat [p1, p2] = mskF 54 F ++ data := by rw [cat2, hp1, hp2]
  have C3 := ssum_any h (some ⟨w3.heap.size, 0, none⟩) 2 [p1, p2] _ ((HT.out.below HB3.out).below hb4) hpts (by simp) (by rw [ec, List.length_append, mskF_length, HN.out trivial]; omega)
  rw [ec, show [p1, p2].length = 2 from rfl] at C3
  rw [e1, e2] at C3 hb4 hs4
  clear hpts e1 e2 ec hp1 hp2 p1 p2
  refine C3.mono ?_
  rintro e w4 ⟨a4, rfl, ho4, hb5⟩
  have hl4 : (sumF h (mskF 54 F ++ data)).length = siz h := sumF_length _ _
  have HO4 : Hid (Rd w4 a4 (sumF h (mskF 54 F ++ data))) := ho4.rd
  have HB34 : Hid (Below w3.heap.size w3 w4) := hb4.trans (hb5.mono hb4.size)
  have HB4 : Hid (Below w.heap.size w w4) := HB3.out.trans (HB34.out.mono (by omega))
  have HC4 : Hid (Bl 5 w4 w1.heap.size ((mskF 92 F).map B)) := HC3O.out.below HB34.out (by omega)
  clear C3 ho4 hb5 hb4 hs4 HC3 HC3O HB3 HB34
  generalize sumF h (mskF 54 F ++ data) = inner at *
  go_wp2_with fail
  obtain ⟨p1, hp1⟩ : ∃ p1 : Prt, p1 = ⟨some ⟨w1.heap.size, 0, none⟩, N, mskF 92 F⟩ := ⟨_, rfl⟩
  obtain ⟨p2, hp2⟩ : ∃ p2 : Prt, p2 = ⟨a4, siz h, inner⟩ := ⟨_, rfl⟩
  have hpts := pts2 w4 30 p1 p2 (by rw [hp1]; exact ⟨bl_rd HC4.out, by show (mskF 92 F).length ≤ N; rw [mskF_length, HN.out trivial]; omega, by show N ≤ _; omega⟩) (by rw [hp2]; exact ⟨HO4.out, by show inner.length ≤ siz h; omega, by show siz h ≤ _; omega⟩)
  have hb6 := alloc_below w4 (.cells #[prV p1, prV p2] 30)
  have hs6 := alloc_size w4 (.cells #[prV p1, prV p2] 30)
  have e1 : prV p1 = .slice (some ⟨w1.heap.size, 0, none⟩) N N := by rw [hp1]; unfold prV; rw [mskF_length, HN.out trivial]
  have e2 : prV p2 = .slice a4 (siz h) (siz h) := by rw [hp2]; unfold prV; rw [hl4]
  have ec : cat [p1, p2] = mskF 92 F ++ inner := by rw [cat2, hp1, hp2]
  have C5 := ssum_any h (some ⟨w4.heap.size, 0, none⟩) 2 [p1, p2] _ ((HT.out.below HB4.out).below hb6) hpts (by simp) (by rw [ec, List.length_append, mskF_length, HN.out trivial]; omega)
  rw [ec, ← Htag.out trivial, show [p1, p2].length = 2 from rfl] at C5
  rw [e1, e2] at C5 hb6 hs6
  clear hpts e1 e2 ec hp1 hp2 p1 p2
  refine C5.mono ?_
  rintro e w5 ⟨a5, rfl, ho5, hb7⟩
  have HO5 : Hid (Own w5 w.heap.size a5 (tagF h key data)) := by
    rcases ho5 with h0 | ⟨g, e, hg, hc⟩
    · exact .inl h0
    · exact .inr ⟨g, e, by have := HB4.out.size; omega, hc⟩
  have HB5 : Hid (Below w.heap.size w w5) := (HB4.out.trans (hb6.mono HB4.out.size)).trans (hb7.mono (by have := HB4.out.size; omega))
  clear C5 ho5 hb7 hb6 hs6 HC4 HB4
  go_wp2
  go_ret
  exact ⟨_, rfl, HO5.out, HB5.out⟩

/-- What is no hash has no tag. -/
theorem hsum_none (h : Int) (ak ad : Option Addr) (ck cd : Nat) (key data : List UInt8) (w : World) (T : Tb w) (hk : Rd w ak key) (hck : key.length ≤ ck) (hck2 : ck ≤ 9223372036854775807) (hkl : key.length ≤ 1152921504606846976) (hh : ¬ isH h) :
    Calls Tryz.prog 40 #[.int .i64 h, .slice ak key.length ck, .slice ad data.length cd] w fun e w' => e = .returned (.slice none 0 0) ∧ Below w.heap.size w w' := by
  have C0 := hfilled_any h ak ck key w T hk hck (by omega) (by omega)
  have hF : filF h key = [] := by
    have h0 : blk h = 0 := by
      unfold blk
      unfold isH at hh
      (repeat' split) <;> omega
    unfold filF
    rw [h0]
    rfl
  have h0 : blk h = 0 := by have := filF_length h key; rw [hF] at this; exact this.symm
  rw [hF, h0] at C0
  clear T hk hF h0
  go_enter Tryz.func40, Tryz.ntmps40
  go_wp2_with fail
  refine C0.mono ?_
  rintro e w1 ⟨rfl, hc1, hb1⟩
  clear C0
  have HC1 : Hid (Bl 5 w1 w.heap.size (([] : List UInt8).map B)) := hc1
  have HB1 : Hid (Below w.heap.size w w1) := hb1
  have C1 : Calls Tryz.prog 90 #[.slice (some ⟨w.heap.size, 0, none⟩) 0 0, .int .u8 92] w1 _ := masked_any (some ⟨w.heap.size, 0, none⟩) 0 [] 92 w1 (.inl rfl) (by simp)
  clear hc1 hb1
  go_wp2_with fail
  refine C1.mono ?_
  rintro e w2 ⟨rfl, _, hb2⟩
  clear C1
  have HB2 : Hid (Below w.heap.size w w2) := HB1.out.trans (hb2.mono HB1.out.size)
  have C2 : Calls Tryz.prog 90 #[.slice (some ⟨w.heap.size, 0, none⟩) 0 0, .int .u8 54] w2 _ := masked_any (some ⟨w.heap.size, 0, none⟩) 0 [] 54 w2 (.inl rfl) (by simp)
  clear hb2 HB1
  go_wp2_with fail
  refine C2.mono ?_
  rintro e w3 ⟨rfl, _, hb3⟩
  clear C2
  have HB3 : Hid (Below w.heap.size w w3) := HB2.out.trans (hb3.mono HB2.out.size)
  clear hb3 HB2
  go_wp2_with fail
  refine (ssum_none h _ _ _ _ hh).mono ?_
  rintro e w4 ⟨rfl, hb4⟩
  have HB4 : Hid (Below w.heap.size w w4) := (HB3.out.trans ((alloc_below w3 _).mono HB3.out.size)).trans (hb4.mono (by rw [alloc_size]; have := HB3.out.size; omega))
  clear hb4 HB3
  go_wp2_with fail
  refine (ssum_none h _ _ _ _ hh).mono ?_
  rintro e w5 ⟨rfl, hb5⟩
  have HB5 : Hid (Below w.heap.size w w5) := (HB4.out.trans ((alloc_below w4 _).mono HB4.out.size)).trans (hb5.mono (by rw [alloc_size]; have := HB4.out.size; omega))
  clear hb5 HB4
  go_wp2
  go_ret
  exact ⟨rfl, HB5.out⟩

set_option maxHeartbeats 1000000 in
/-- Is it the text's tag? -/
theorem check_any (h : Int) (ak ad at' : Option Addr) (ck cd ct : Nat) (key data tag : List UInt8) (w : World) (T : Tb w) (hk : Rd w ak key) (hd : Rd w ad data) (ht : Rd w at' tag) (hck : key.length ≤ ck) (hck2 : ck ≤ 9223372036854775807) (hkl : key.length ≤ 1152921504606846976) (hcd : data.length ≤ cd) (hcd2 : cd ≤ 9223372036854775807) (hdl : data.length ≤ 1152921504606846976) (htl : tag.length ≤ 1152921504606846976) :
    Calls Tryz.prog 18 #[.int .i64 h, .slice ak key.length ck, .slice ad data.length cd, .slice at' tag.length ct] w fun e w' => e = .returned (.bool (decide (0 < siz h ∧ tagF h key data = tag))) ∧ Below w.heap.size w w' := by
  by_cases hh : isH h
  · have C0 := hsum_any h ak ad ck cd key data w T hk hd hck hck2 hkl hcd hcd2 hdl
    have HR : Hid (Rd w at' tag) := ht
    have hsl := siz_le h
    have hs0 : 0 < siz h := by rcases hh with rfl | rfl | rfl <;> decide
    have hl := tagF_length h key data
    have Hd : Hid (True → decide (0 < siz h ∧ tagF h key data = tag) = decide (tagF h key data = tag)) := fun _ => by simp [hs0]
    clear T hk hd ht
    go_enter Tryz.func18, Tryz.ntmps18
    go_wp2_with fail
    refine C0.mono ?_
    rintro e w1 ⟨a1, rfl, ho1, hb1⟩
    clear C0
    obtain ⟨g, rfl, hg, hc⟩ := own_bl ho1 (by omega)
    have HB1 : Hid (Below w.heap.size w w1) := hb1
    have C1 := equal_any (some ⟨g, 0, none⟩) at' (siz h) ct (tagF h key data) tag w1 ho1.rd (HR.out.below hb1 (Nat.le_refl _)) (by omega) htl
    rw [hl] at C1
    clear ho1 hb1 hc hl
    go_wp2_with fail
    refine C1.mono ?_
    rintro e w2 ⟨rfl, hw2⟩
    subst w2
    clear C1
    go_wp2
    go_ret
    rw [Hd.out trivial]
    exact ⟨rfl, HB1.out⟩
  · have C0 := hsum_none h ak ad ck cd key data w T hk hck hck2 hkl hh
    have Hd : Hid (True → decide (0 < siz h ∧ tagF h key data = tag) = false) := fun _ => by simp [(siz_not hh tag).1]
    clear T hk hd ht
    go_enter Tryz.func18, Tryz.ntmps18
    go_wp2_with fail
    refine C0.mono ?_
    rintro e w1 ⟨rfl, hb1⟩
    have HB1 : Hid (Below w.heap.size w w1) := hb1
    clear C0 hb1
    go_wp2
    go_ret
    rw [Hd.out trivial]
    exact ⟨rfl, HB1.out⟩

end Go.Proofs.YtccfcplhifbjlaaGreatDoor.Sha