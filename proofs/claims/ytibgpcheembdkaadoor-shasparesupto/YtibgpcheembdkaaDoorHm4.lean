import Derived.Test.YtibgpcheembdkaaDoorHm3
namespace Go.Proofs.YtibgpcheembdkaaDoor
open Go.RowKit

theorem bl_rd {w : World} {g : Nat} {l : List UInt8} (h : Bl 5 w g (l.map B)) : Rd w (some ⟨g, 0, none⟩) l := Own.rd (B0 := 0) (.inr ⟨g, rfl, Nat.zero_le _, h⟩)

set_option maxRecDepth 100000 in
set_option maxHeartbeats 2000000 in
/-- The tag of a text. -/
theorem hsum_any (h : Int) (ak ad : Option Addr) (ck cd : Nat) (key data : List UInt8) (w : World) (T : Tb w) (hk : Rd w ak key) (hd : Rd w ad data) (hck : key.length ≤ ck) (hck2 : ck ≤ 9223372036854775807) (hkl : key.length ≤ 1152921504606846976) (hcd : data.length ≤ cd) (hcd2 : cd ≤ 9223372036854775807) (hdl : data.length ≤ 1152921504606846976) :
    Calls Tryd.prog 32 #[.int .i64 h, .slice ak key.length ck, .slice ad data.length cd] w fun e w' => ∃ a, e = .returned (.slice a (siz h) (siz h)) ∧ Own w' w.heap.size a (tagF h key data) ∧ Below w.heap.size w w' := by
  have HT : Hid (Tb w) := T
  have HRd : Hid (Rd w ad data) := hd
  have hbl := blk_le h
  have hsl := siz_le h
  have C0 := hfilled_any h ak ck key w T hk hck (by omega) (by omega)
  have hFl := filF_length h key
  have Htag : Hid (True → tagF h key data = sumF h (mskF 92 (filF h key) ++ sumF h (mskF 54 (filF h key) ++ data))) := fun _ => rfl
  clear T hk hd
  generalize filF h key = F at *
  obtain ⟨N, hN⟩ : ∃ N, blk h = N := ⟨_, rfl⟩
  rw [hN] at C0 hFl hbl
  have HN : Hid (True → F.length = N) := fun _ => hFl
  clear hN hFl
  go_enter Tryd.func32, Tryd.ntmps32
  go_wp2_with fail
  refine C0.mono ?_
  rintro e w1 ⟨rfl, hc1, hb1⟩
  clear C0
  have HC1 : Hid (Bl 5 w1 w.heap.size (F.map B)) := hc1
  have HB1 : Hid (Below w.heap.size w w1) := hb1
  have hG1 : w.heap.size < w1.heap.size := hc1.lt
  have C1 := masked_any (some ⟨w.heap.size, 0, none⟩) N F 92 w1 (bl_rd hc1) (by rw [HN.out trivial]; omega)
  rw [HN.out trivial] at C1
  clear hc1 hb1
  go_wp2_with fail
  refine C1.mono ?_
  rintro e w2 ⟨rfl, hc2, hb2⟩
  clear C1
  have HC2 : Hid (Bl 5 w2 w1.heap.size ((mskF 92 F).map B)) := hc2
  have HC2F : Hid (Bl 5 w2 w.heap.size (F.map B)) := HC1.out.below hb2 hG1
  have HB2 : Hid (Below w.heap.size w w2) := HB1.out.trans (hb2.mono (by omega))
  have hG2 : w1.heap.size < w2.heap.size := hc2.lt
  have C2 := masked_any (some ⟨w.heap.size, 0, none⟩) N F 54 w2 (bl_rd HC2F.out) (by rw [HN.out trivial]; omega)
  rw [HN.out trivial] at C2
  clear hc2 hb2 HC1 HB1
  go_wp2_with fail
  refine C2.mono ?_
  rintro e w3 ⟨rfl, hc3, hb3⟩
  clear C2
  have HC3 : Hid (Bl 5 w3 w2.heap.size ((mskF 54 F).map B)) := hc3
  have HC3O : Hid (Bl 5 w3 w1.heap.size ((mskF 92 F).map B)) := HC2.out.below hb3 hG2
  have HB3 : Hid (Below w.heap.size w w3) := HB2.out.trans (hb3.mono (by omega))
  have hG3 : w2.heap.size < w3.heap.size := hc3.lt
  clear hc3 hb3 HC2 HC2F HB2
  go_wp2_with fail
  obtain ⟨p1, hp1⟩ : ∃ p1 : Prt, p1 = ⟨some ⟨w2.heap.size, 0, none⟩, N, mskF 54 F⟩ := ⟨_, rfl⟩
  obtain ⟨p2, hp2⟩ : ∃ p2 : Prt, p2 = ⟨ad, cd, data⟩ := ⟨_, rfl⟩
  have hpts := pts2 w3 23 p1 p2 (by rw [hp1]; exact ⟨bl_rd HC3.out, by show (mskF 54 F).length ≤ N; rw [mskF_length, HN.out trivial]; omega, by show N ≤ _; omega⟩) (by rw [hp2]; exact ⟨HRd.out.below HB3.out (Nat.le_refl _), hcd, by show cd ≤ _; omega⟩)
  have hb4 := alloc_below w3 (.cells #[prV p1, prV p2] 23)
  have hs4 := alloc_size w3 (.cells #[prV p1, prV p2] 23)
  have e1 : prV p1 = .slice (some ⟨w2.heap.size, 0, none⟩) N N := by rw [hp1]; unfold prV; rw [mskF_length, HN.out trivial]
  have e2 : prV p2 = .slice ad data.length cd := by rw [hp2]; rfl
  have ec : cat [p1, p2] = mskF 54 F ++ data := by rw [cat2, hp1, hp2]
  have C3 := ssum_any h (some ⟨w3.heap.size, 0, none⟩) 2 [p1, p2] _ ((HT.out.below HB3.out).below hb4) hpts (by simp) (by rw [ec, List.length_append, mskF_length, HN.out trivial]; omega)
  rw [ec, show [p1, p2].length = 2 from rfl] at C3
  rw [e1, e2] at C3 hb4 hs4
  clear hpts e1 e2 ec hp1 hp2 p1 p2
  refine C3.mono ?_
  rintro e w4 ⟨a4, rfl, ho4, hb5⟩
  have hl4 : (sumF h (mskF 54 F ++ data)).length = siz h := sumF_length _ _
  have HO4 : Hid (Rd w4 a4 (sumF h (mskF 54 F ++ data))) := ho4.rd
  have HB34 : Hid (Below w3.heap.size w3 w4) := hb4.trans (hb5.mono hb4.size)
  have HB4 : Hid (Below w.heap.size w w4) := HB3.out.trans (HB34.out.mono (by omega))
  have HC4 : Hid (Bl 5 w4 w1.heap.size ((mskF 92 F).map B)) := HC3O.out.below HB34.out (by omega)
  clear C3 ho4 hb5 hb4 hs4 HC3 HC3O HB3 HB34
  generalize sumF h (mskF 54 F ++ data) = inner at *
  go_wp2_with fail
  obtain ⟨p1, hp1⟩ : ∃ p1 : Prt, p1 = ⟨some ⟨w1.heap.size, 0, none⟩, N, mskF 92 F⟩ := ⟨_, rfl⟩
  obtain ⟨p2, hp2⟩ : ∃ p2 : Prt, p2 = ⟨a4, siz h, inner⟩ := ⟨_, rfl⟩
  have hpts := pts2 w4 23 p1 p2 (by rw [hp1]; exact ⟨bl_rd HC4.out, by show (mskF 92 F).length ≤ N; rw [mskF_length, HN.out trivial]; omega, by show N ≤ _; omega⟩) (by rw [hp2]; exact ⟨HO4.out, by show inner.length ≤ siz h; omega, by show siz h ≤ _; omega⟩)
  have hb6 := alloc_below w4 (.cells #[prV p1, prV p2] 23)
  have hs6 := alloc_size w4 (.cells #[prV p1, prV p2] 23)
  have e1 : prV p1 = .slice (some ⟨w1.heap.size, 0, none⟩) N N := by rw [hp1]; unfold prV; rw [mskF_length, HN.out trivial]
  have e2 : prV p2 = .slice a4 (siz h) (siz h) := by rw [hp2]; unfold prV; rw [hl4]
  have ec : cat [p1, p2] = mskF 92 F ++ inner := by rw [cat2, hp1, hp2]
  have C5 := ssum_any h (some ⟨w4.heap.size, 0, none⟩) 2 [p1, p2] _ ((HT.out.below HB4.out).below hb6) hpts (by simp) (by rw [ec, List.length_append, mskF_length, HN.out trivial]; omega)
  rw [ec, ← Htag.out trivial, show [p1, p2].length = 2 from rfl] at C5
  rw [e1, e2] at C5 hb6 hs6
  clear hpts e1 e2 ec hp1 hp2 p1 p2
  refine C5.mono ?_
  rintro e w5 ⟨a5, rfl, ho5, hb7⟩
  have HO5 : Hid (Own w5 w.heap.size a5 (tagF h key data)) := by
    rcases ho5 with h0 | ⟨g, e, hg, hc⟩
    · exact .inl h0
    · exact .inr ⟨g, e, by have := HB4.out.size; omega, hc⟩
  have HB5 : Hid (Below w.heap.size w w5) := (HB4.out.trans (hb6.mono HB4.out.size)).trans (hb7.mono (by have := HB4.out.size; omega))
  clear C5 ho5 hb7 hb6 hs6 HC4 HB4
  go_wp2
  go_ret
  exact ⟨_, rfl, HO5.out, HB5.out⟩

/-- What is no hash has no tag. -/
theorem hsum_none (h : Int) (ak ad : Option Addr) (ck cd : Nat) (key data : List UInt8) (w : World) (T : Tb w) (hk : Rd w ak key) (hck : key.length ≤ ck) (hck2 : ck ≤ 9223372036854775807) (hkl : key.length ≤ 1152921504606846976) (hh : ¬ isH h) :
    Calls Tryd.prog 32 #[.int .i64 h, .slice ak key.length ck, .slice ad data.length cd] w fun e w' => e = .returned (.slice none 0 0) ∧ Below w.heap.size w w' := by
  have C0 := hfilled_any h ak ck key w T hk hck (by omega) (by omega)
  have hF : filF h key = [] := by
    have h0 : blk h = 0 := by
      unfold blk
      unfold isH at hh
      (repeat' split) <;> omega
    unfold filF
    rw [h0]
    rfl
  have h0 : blk h = 0 := by have := filF_length h key; rw [hF] at this; exact this.symm
  rw [hF, h0] at C0
  clear T hk hF h0
  go_enter Tryd.func32, Tryd.ntmps32
  go_wp2_with fail
  refine C0.mono ?_
  rintro e w1 ⟨rfl, hc1, hb1⟩
  clear C0
  have HC1 : Hid (Bl 5 w1 w.heap.size (([] : List UInt8).map B)) := hc1
  have HB1 : Hid (Below w.heap.size w w1) := hb1
  have C1 : Calls Tryd.prog 54 #[.slice (some ⟨w.heap.size, 0, none⟩) 0 0, .int .u8 92] w1 _ := masked_any (some ⟨w.heap.size, 0, none⟩) 0 [] 92 w1 (.inl rfl) (by simp)
  clear hc1 hb1
  go_wp2_with fail
  refine C1.mono ?_
  rintro e w2 ⟨rfl, _, hb2⟩
  clear C1
  have HB2 : Hid (Below w.heap.size w w2) := HB1.out.trans (hb2.mono HB1.out.size)
  have C2 : Calls Tryd.prog 54 #[.slice (some ⟨w.heap.size, 0, none⟩) 0 0, .int .u8 54] w2 _ := masked_any (some ⟨w.heap.size, 0, none⟩) 0 [] 54 w2 (.inl rfl) (by simp)
  clear hb2 HB1
  go_wp2_with fail
  refine C2.mono ?_
  rintro e w3 ⟨rfl, _, hb3⟩
  clear C2
  have HB3 : Hid (Below w.heap.size w w3) := HB2.out.trans (hb3.mono HB2.out.size)
  clear hb3 HB2
  go_wp2_with fail
  refine (ssum_none h _ _ _ _ hh).mono ?_
  rintro e w4 ⟨rfl, hb4⟩
  have HB4 : Hid (Below w.heap.size w w4) := (HB3.out.trans ((alloc_below w3 _).mono HB3.out.size)).trans (hb4.mono (by rw [alloc_size]; have := HB3.out.size; omega))
  clear hb4 HB3
  go_wp2_with fail
  refine (ssum_none h _ _ _ _ hh).mono ?_
  rintro e w5 ⟨rfl, hb5⟩
  have HB5 : Hid (Below w.heap.size w w5) := (HB4.out.trans ((alloc_below w4 _).mono HB4.out.size)).trans (hb5.mono (by rw [alloc_size]; have := HB4.out.size; omega))
  clear hb5 HB4
  go_wp2
  go_ret
  exact ⟨rfl, HB5.out⟩

set_option maxHeartbeats 1000000 in
/-- Is it the text's tag? -/
theorem check_any (h : Int) (ak ad at' : Option Addr) (ck cd ct : Nat) (key data tag : List UInt8) (w : World) (T : Tb w) (hk : Rd w ak key) (hd : Rd w ad data) (ht : Rd w at' tag) (hck : key.length ≤ ck) (hck2 : ck ≤ 9223372036854775807) (hkl : key.length ≤ 1152921504606846976) (hcd : data.length ≤ cd) (hcd2 : cd ≤ 9223372036854775807) (hdl : data.length ≤ 1152921504606846976) (htl : tag.length ≤ 1152921504606846976) :
    Calls Tryd.prog 34 #[.int .i64 h, .slice ak key.length ck, .slice ad data.length cd, .slice at' tag.length ct] w fun e w' => e = .returned (.bool (decide (0 < siz h ∧ tagF h key data = tag))) ∧ Below w.heap.size w w' := by
  by_cases hh : isH h
  · have C0 := hsum_any h ak ad ck cd key data w T hk hd hck hck2 hkl hcd hcd2 hdl
    have HR : Hid (Rd w at' tag) := ht
    have hsl := siz_le h
    have hs0 : 0 < siz h := by rcases hh with rfl | rfl | rfl <;> decide
    have hl := tagF_length h key data
    have Hd : Hid (True → decide (0 < siz h ∧ tagF h key data = tag) = decide (tagF h key data = tag)) := fun _ => by simp [hs0]
    clear T hk hd ht
    go_enter Tryd.func34, Tryd.ntmps34
    go_wp2_with fail
    refine C0.mono ?_
    rintro e w1 ⟨a1, rfl, ho1, hb1⟩
    clear C0
    obtain ⟨g, rfl, hg, hc⟩ := own_bl ho1 (by omega)
    have HB1 : Hid (Below w.heap.size w w1) := hb1
    have C1 := equal_any (some ⟨g, 0, none⟩) at' (siz h) ct (tagF h key data) tag w1 ho1.rd (HR.out.below hb1 (Nat.le_refl _)) (by omega) htl
    rw [hl] at C1
    clear ho1 hb1 hc hl
    go_wp2_with fail
    refine C1.mono ?_
    rintro e w2 ⟨rfl, hw2⟩
    subst w2
    clear C1
    go_wp2
    go_ret
    rw [Hd.out trivial]
    exact ⟨rfl, HB1.out⟩
  · have C0 := hsum_none h ak ad ck cd key data w T hk hck hck2 hkl hh
    have Hd : Hid (True → decide (0 < siz h ∧ tagF h key data = tag) = false) := fun _ => by simp [(siz_not hh tag).1]
    clear T hk hd ht
    go_enter Tryd.func34, Tryd.ntmps34
    go_wp2_with fail
    refine C0.mono ?_
    rintro e w1 ⟨rfl, hb1⟩
    have HB1 : Hid (Below w.heap.size w w1) := hb1
    clear C0 hb1
    go_wp2
    go_ret
    rw [Hd.out trivial]
    exact ⟨rfl, HB1.out⟩

end Go.Proofs.YtibgpcheembdkaaDoor
