import Derived.Test.YtibgpcheembdkaaDoorHm6
namespace Go.Proofs.YtibgpcheembdkaaDoor
open Go.RowKit

theorem blk_siz (h : Int) : blk h = 0 ↔ siz h = 0 := by
  unfold blk siz
  (repeat' split) <;> omega
theorem own_base2 {w : World} {B0 B1 : Nat} {a : Option Addr} {l : List UInt8} (h : Own w B1 a l) (hb : B0 ≤ B1) : Own w B0 a l := by
  rcases h with h0 | ⟨g, e, hg, hc⟩
  · exact .inl h0
  · exact .inr ⟨g, e, by omega, hc⟩

/-- sha.Sum of a row of one's own, as the one part of a new list. -/
theorem ssum_row (h : Int) (B0 n : Nat) (v : Value) (l : List UInt8) (w : World) (T : Tb w) (hv : w.ownsRow B0 5 1 v n (l.map B)) (hl : l.length < 2305843009213693952) :
    Calls Tryd.prog 21 #[.int .i64 h, .slice (some ⟨w.heap.size, 0, none⟩) 1 1] (w.alloc (.cells #[v] 23)) fun e w' => ∃ a, e = .returned (.slice a (siz h) (siz h)) ∧ Own w' w.heap.size a (sumF h l) ∧ Below w.heap.size w w' := by
  obtain ⟨a, c, rfl, hn, hc, hm, _, hr, _⟩ := own_rd hv
  have hp := pts1 w 23 ⟨a, c, l⟩ ⟨hr, by show l.length ≤ c; omega, by show c ≤ _; unfold maxLen at hm; omega⟩
  have hb3 := alloc_below w (.cells #[prV ⟨a, c, l⟩] 23)
  have hs3 := alloc_size w (.cells #[prV ⟨a, c, l⟩] 23)
  dsimp only [prV] at hp hb3 hs3
  rw [← hn] at hp hb3 hs3
  have C := ssum_any h (some ⟨w.heap.size, 0, none⟩) 1 [⟨a, c, l⟩] _ (T.below hb3) hp (by simp) (by rw [cat1]; exact hl)
  rw [cat1] at C
  refine C.mono ?_
  rintro e w2 ⟨a2, rfl, ho, hb⟩
  exact ⟨a2, rfl, own_base2 ho hb3.size, hb3.trans (hb.mono hb3.size)⟩

set_option maxHeartbeats 2000000 in
theorem is_core (h : Int) (ak ad : Option Addr) (ck cd : Nat) (key data : List UInt8) (w : World) (T : Tb w) (hk : Rd w ak key) (hd : Rd w ad data) (hck : key.length ≤ ck) (hck2 : ck ≤ 100000000) (hcd : data.length ≤ cd) (hcd2 : cd ≤ 100000000) :
    Calls Tryd.prog 10 #[.int .i64 h, .slice ak key.length ck, .slice ad data.length cd] w fun e w' => e = .returned (.bool true) ∧ Below w.heap.size w w' := by
  have HT : Hid (Tb w) := T
  have HK : Hid (Rd w ak key) := hk
  have HD : Hid (Rd w ad data) := hd
  have hsl := siz_le h
  have hbl := blk_le h
  clear T hk hd
  go_enter Tryd.func10, Tryd.ntmps10
  go_wp2_with fail
  refine (started5_any w HT.out).mono ?_
  rintro e w1 ⟨rfl, hb1⟩
  have HB1 : Hid (Below w.heap.size w w1) := hb1
  clear hb1
  go_wp2_with fail
  refine (hsum_any h ak ad ck cd key data w1 (HT.out.below HB1.out) (HK.out.below HB1.out (Nat.le_refl _)) (HD.out.below HB1.out (Nat.le_refl _)) hck (by omega) (by omega) hcd (by omega) (by omega)).mono ?_
  rintro e w2 ⟨a2, rfl, ho2, hb2⟩
  have HO2 : Hid (Rd w2 a2 (tagF h key data)) := ho2.rd
  have HB2 : Hid (Below w.heap.size w w2) := HB1.out.trans (hb2.mono HB1.out.size)
  have HL : Hid (True → (tagF h key data).length = siz h) := fun _ => tagF_length h key data
  have HTg : Hid (True → tagF h key data = sumF h (mskF 92 (filF h key) ++ sumF h (mskF 54 (filF h key) ++ data))) := fun _ => rfl
  have CB := block5_any h w2
  by_cases hz : blk h = 0
  · have hs0 := (blk_siz h).1 hz
    rw [hz] at CB
    rw [hs0]
    clear ho2 hb2 hz hs0
    go_wp2_with fail
    refine CB.mono ?_
    rintro e w3 ⟨rfl, hw3⟩
    subst w3
    clear CB
    go_wp2
    go_ret
    exact ⟨rfl, HB2.out⟩
  · obtain ⟨N, hN⟩ : ∃ N, blk h = N := ⟨_, rfl⟩
    have C3 := fill5_any h ak ck key w2 (HT.out.below HB2.out) (HK.out.below HB2.out (Nat.le_refl _)) hck (by omega) (by omega)
    have hFl := filF_length h key
    rw [hN] at CB C3 hFl hz hbl
    have hN0 : 0 < N := by omega
    have HFl : Hid (True → (filF h key).length = N) := fun _ => hFl
    clear ho2 hb2 hN hz hFl HB1
    go_wp2_with fail
    refine CB.mono ?_
    rintro e w3 ⟨rfl, hw3⟩
    subst w3
    clear CB
    go_wp2_with fail
    refine C3.mono ?_
    rintro e w3 ⟨G, rfl, hG, hc3, hb3⟩
    have HC3 : Hid (Bl 5 w3 G ((filF h key).map B)) := hc3
    have HB23 : Hid (Below w2.heap.size w2 w3) := hb3
    have HB3 : Hid (Below w.heap.size w w3) := HB2.out.trans (hb3.mono HB2.out.size)
    have HO3 : Hid (Rd w3 a2 (tagF h key data)) := HO2.out.below hb3 (Nat.le_refl _)
    clear C3 hc3 hb3 HB2 HO2 HB23
    generalize filF h key = F at *
    generalize tagF h key data = TG at *
    have C4 := xor5_any (some ⟨G, 0, none⟩) ad N cd w3.heap.size F data 54 w3 (Nat.le_refl _) (Nat.le_refl _) (bl_rd HC3.out) (HD.out.below HB3.out (Nat.le_refl _)) (by rw [HFl.out trivial]; omega) (by omega)
    rw [HFl.out trivial] at C4
    go_wp2_with fail
    refine C4.mono ?_
    rintro e w4 ⟨v4, rfl, ho4, hb4⟩
    have HG3 : G < w3.heap.size := HC3.out.lt
    have HB4 : Hid (Below w.heap.size w w4) := HB3.out.trans (hb4.mono HB3.out.size)
    have HO4 : Hid (Rd w4 a2 TG) := HO3.out.below hb4 (Nat.le_refl _)
    have HC4 : Hid (Bl 5 w4 G (F.map B)) := HC3.out.below hb4 HG3
    have C5 := ssum_row h w3.heap.size (N + data.length) v4 (mskF 54 F ++ data) w4 (HT.out.below HB4.out) ho4 (by rw [List.length_append, mskF_length, HFl.out trivial]; omega)
    obtain ⟨a4, c4, rfl⟩ := own_len ho4
    clear C4 ho4 hb4 HB3 HO3 HC3
    go_wp2_with fail
    refine C5.mono ?_
    rintro e w5 ⟨a5, rfl, ho5, hb5⟩
    have HG4 : G < w4.heap.size := HC4.out.lt
    have HB5 : Hid (Below w.heap.size w w5) := HB4.out.trans (hb5.mono HB4.out.size)
    have HO5 : Hid (Rd w5 a2 TG) := HO4.out.below hb5 (Nat.le_refl _)
    have HC5 : Hid (Bl 5 w5 G (F.map B)) := HC4.out.below hb5 HG4
    have HI5 : Hid (Rd w5 a5 (sumF h (mskF 54 F ++ data))) := ho5.rd
    have HIl : Hid (True → (sumF h (mskF 54 F ++ data)).length = siz h) := fun _ => sumF_length _ _
    clear C5 ho5 hb5 HB4 HO4 HC4
    generalize sumF h (mskF 54 F ++ data) = I at *
    have C6 := xor5_any (some ⟨G, 0, none⟩) a5 N (siz h) w5.heap.size F I 92 w5 (Nat.le_refl _) (Nat.le_refl _) (bl_rd HC5.out) HI5.out (by rw [HFl.out trivial]; omega) (by rw [HIl.out trivial]; omega)
    rw [HFl.out trivial, HIl.out trivial] at C6
    go_wp2_with fail
    refine C6.mono ?_
    rintro e w6 ⟨v6, rfl, ho6, hb6⟩
    have HB6 : Hid (Below w.heap.size w w6) := HB5.out.trans (hb6.mono HB5.out.size)
    have HO6 : Hid (Rd w6 a2 TG) := HO5.out.below hb6 (Nat.le_refl _)
    have C7 := ssum_row h w5.heap.size (N + siz h) v6 (mskF 92 F ++ I) w6 (HT.out.below HB6.out) ho6 (by rw [List.length_append, mskF_length, HFl.out trivial, HIl.out trivial]; omega)
    obtain ⟨a6, c6, rfl⟩ := own_len ho6
    clear C6 ho6 hb6 HB5 HO5 HC5 HI5
    rw [← HTg.out trivial] at C7
    go_wp2_with fail
    refine C7.mono ?_
    rintro e w7 ⟨a7, rfl, ho7, hb7⟩
    have HB7 : Hid (Below w.heap.size w w7) := HB6.out.trans (hb7.mono HB6.out.size)
    have C8 := same5_any a2 a7 (siz h) (siz h) TG TG w7 (HO6.out.below hb7 (Nat.le_refl _)) ho7.rd (by rw [HL.out trivial]; omega)
    rw [HL.out trivial, decide_eq_true rfl] at C8
    clear C7 ho7 hb7 HB6 HO6
    go_wp2_with fail
    refine C8.mono ?_
    rintro e w8 ⟨rfl, q, rfl⟩
    have HB8 : Hid (Below w.heap.size w (w7.drewN q)) := below_drewN HB7.out q
    clear C8 HB7
    go_wp2
    go_ret
    exact ⟨rfl, HB8.out⟩

end Go.Proofs.YtibgpcheembdkaaDoor
