import Derived.Test.YtoclnmjljilfdaaDoorIsLaw
namespace Go.Proofs.YtoclnmjljilfdaaDoor
open Go.RowKit

theorem rep_take (M k : Nat) (h : k < M) : (List.replicate M (0 : UInt8)).take (k + 1) = (List.replicate M 0).take k ++ [0] := by
  rw [List.take_succ_eq_append_getElem (by simpa using h)]
  simp
theorem getD_full (l : List UInt8) : (List.range l.length).map (fun i => l.getD i 0) = l := by
  have := fill_end l l.length l.length (Nat.le_refl _) (.inr (Nat.le_refl _))
  apply List.ext_getElem
  · simp
  · intro j h1 h2
    simp [List.getElem?_eq_getElem h2]
theorem filF_fil (h : Int) (key : List UInt8) : filF h (filF h key) = filF h key := by
  have hl := filF_length h key
  unfold filF
  rw [show keyF h ((List.range (blk h)).map fun i => (keyF h key).getD i 0) = filF h key from by
    show keyF h (filF h key) = _
    unfold keyF
    rw [if_neg (by omega)]]
  have := getD_full (filF h key)
  rw [hl] at this
  exact this
theorem filF_zero (h : Int) (key : List UInt8) (M : Nat) (hM : key.length + M ≤ blk h) : filF h (key ++ List.replicate M 0) = filF h key := by
  unfold filF keyF
  rw [if_neg (by simp; omega), if_neg (by omega)]
  apply List.map_congr_left
  intro i hi
  rcases Nat.lt_or_ge i key.length with h1 | h1
  · rw [List.getD_eq_getElem?_getD, List.getD_eq_getElem?_getD, List.getElem?_append_left h1]
  · rw [List.getD_eq_getElem?_getD, List.getD_eq_getElem?_getD, List.getElem?_append_right h1, List.getElem?_eq_none h1]
    rcases Nat.lt_or_ge (i - key.length) M with h2 | h2
    · simp [h2]
    · rw [List.getElem?_eq_none (by simpa using h2)]
theorem tagF_fil (h : Int) (key data : List UInt8) : tagF h (filF h key) data = tagF h key data := by unfold tagF; rw [filF_fil]
theorem tagF_zero (h : Int) (key data : List UInt8) (M : Nat) (hM : key.length + M ≤ blk h) : tagF h (key ++ List.replicate M 0) data = tagF h key data := by unfold tagF; rw [filF_zero h key M hM]

set_option maxRecDepth 100000 in
set_option maxHeartbeats 2000000 in
theorem onekey_core (h : Int) (n : Int) (ak ad : Option Addr) (ck cd : Nat) (key data : List UInt8) (w : World) (T : Tb w) (hk : Rd w ak key) (hd : Rd w ad data) (hck : key.length ≤ ck) (hck2 : ck ≤ 100000000) (hcd : data.length ≤ cd) (hcd2 : cd ≤ 100000000) (_hn : -9223372036854775808 ≤ n ∧ n ≤ 9223372036854775807) :
    Calls Tryd.prog 9 #[.int .i64 h, .slice ak key.length ck, .slice ad data.length cd, .int .i64 n] w fun e w' => e = .returned (.bool true) ∧ Below w.heap.size w w' := by
  obtain ⟨i0, hi, hz0, hz1, hz2⟩ := info_parts infoB
  have HT : Hid (Tb w) := T
  have HK : Hid (Rd w ak key) := hk
  have HD : Hid (Rd w ad data) := hd
  have hsl := siz_le h
  have hbl := blk_le h
  clear T hk hd
  go_enter Tryd.func9, Tryd.ntmps9
  go_wp2_with fail
  refine (started5_any w HT.out).mono ?_
  rintro e w1 ⟨rfl, hb1⟩
  have HB1 : Hid (Below w.heap.size w w1) := hb1
  clear hb1
  go_wp2_with fail
  refine (hsum_any h ak ad ck cd key data w1 (HT.out.below HB1.out) (HK.out.below HB1.out (Nat.le_refl _)) (HD.out.below HB1.out (Nat.le_refl _)) hck (by omega) (by omega) hcd (by omega) (by omega)).mono ?_
  rintro e w2 ⟨a2, rfl, ho2, hb2⟩
  have HO2 : Hid (Rd w2 a2 (tagF h key data)) := ho2.rd
  have HB2 : Hid (Below w.heap.size w w2) := HB1.out.trans (hb2.mono HB1.out.size)
  have HL : Hid (True → (tagF h key data).length = siz h) := fun _ => tagF_length h key data
  have C3 := fill5_any h ak ck key w2 (HT.out.below HB2.out) (HK.out.below HB2.out (Nat.le_refl _)) hck (by omega) (by omega)
  clear ho2 hb2 HB1
  go_wp2_with fail
  refine C3.mono ?_
  rintro e w3 ⟨G, rfl, hG, hc3, hb3⟩
  have HB3 : Hid (Below w.heap.size w w3) := HB2.out.trans (hb3.mono HB2.out.size)
  have HO3 : Hid (Rd w3 a2 (tagF h key data)) := HO2.out.below hb3 (Nat.le_refl _)
  have C4 := hsum_any h (some ⟨G, 0, none⟩) ad (blk h) cd (filF h key) data w3 (HT.out.below HB3.out) (bl_rd hc3) (HD.out.below HB3.out (Nat.le_refl _)) (by rw [filF_length]; exact Nat.le_refl _) (by omega) (by rw [filF_length]; omega) hcd (by omega) (by omega)
  rw [filF_length, tagF_fil] at C4
  clear C3 hc3 hb3 HB2 HO2
  go_wp2_with fail
  refine C4.mono ?_
  rintro e w4 ⟨a4, rfl, ho4, hb4⟩
  have HB4 : Hid (Below w.heap.size w w4) := HB3.out.trans (hb4.mono HB3.out.size)
  have HO4 : Hid (Rd w4 a2 (tagF h key data)) := HO3.out.below hb4 (Nat.le_refl _)
  have HU4 : Hid (Rd w4 a4 (tagF h key data)) := ho4.rd
  have CB := block5_any h
  have HTZ : Hid (∀ M, key.length + M ≤ blk h → tagF h (key ++ List.replicate M 0) data = tagF h key data) := fun M hM => tagF_zero h key data M hM
  by_cases hz : blk h = 0
  · have hs0 := (blk_siz h).1 hz
    have CB := CB w4
    rw [hz] at CB
    rw [hs0]
    clear C4 ho4 hb4 hz hs0 HB3 HO3
    go_wp2_with fail
    refine CB.mono ?_
    rintro e w5 ⟨rfl, hw5⟩
    subst w5
    clear CB
    go_wp2
    go_ret
    exact ⟨rfl, HB4.out⟩
  · have C5 := same5_any a2 a4 (siz h) (siz h) (tagF h key data) (tagF h key data) w4 HO4.out HU4.out (by rw [HL.out trivial]; omega)
    rw [HL.out trivial, decide_eq_true rfl] at C5
    obtain ⟨N, hN⟩ : ∃ N, blk h = N := ⟨_, rfl⟩
    rw [hN] at CB hz hbl HTZ
    rw [hN]
    have hN0 : 0 < N := by omega
    clear C4 ho4 hb4 hN hz HB3 HO3 HU4
    generalize tagF h key data = TG at *
    go_wp2_with fail
    refine (CB w4).mono ?_
    rintro e w5 ⟨rfl, hw5⟩
    subst w5
    go_wp2_with fail
    refine C5.mono ?_
    rintro e w5 ⟨rfl, q, rfl⟩
    have HB5 : Hid (Below w.heap.size w (w4.drewN q)) := below_drewN HB4.out q
    have HO5 : Hid (Rd (w4.drewN q) a2 TG) := HO4.out.drewN q
    clear C5 HB4 HO4
    generalize w4.drewN q = w5 at *
    have HB4 := HB5
    have HO4 := HO5
    clear HB5 HO5 w4
    rename World => w4
    go_wp2_with fail
    refine (CB w4).mono ?_
    rintro e w5 ⟨rfl, hw5⟩
    subst w5
    by_cases hlong : N < key.length
    · clear CB
      go_wp2
      go_ret
      exact ⟨rfl, HB4.out⟩
    by_cases hneg : n < 0
    · clear CB
      go_wp2
      go_ret
      exact ⟨rfl, HB4.out⟩
    obtain ⟨M, rfl⟩ : ∃ M : Nat, n = (M : Int) := ⟨n.toNat, by omega⟩
    go_wp2_with fail
    refine (CB w4).mono ?_
    rintro e w5 ⟨rfl, hw5⟩
    subst w5
    clear CB
    by_cases hbig : N - key.length < M
    · have hbI : ((N : Int) - (key.length : Int)) < (M : Int) := by omega
      go_wp2
      go_ret
      exact ⟨rfl, HB4.out⟩
    have hbI : ¬ ((N : Int) - (key.length : Int)) < (M : Int) := by omega
    have HT2 : Hid (True → tagF h (key ++ List.replicate M 0) data = TG) := fun _ => HTZ.out M (by omega)
    have HRkey : Hid (Rd w4 ak key) := HK.out.below HB4.out (Nat.le_refl _)
    have HO0 : Hid (w4.ownsRow w4.heap.size 5 1 (.slice none 0 0) (0 + 0) (([] ++ key.take 0 : List UInt8).map B)) := by
      show World.ownsRow _ _ _ _ _ _ _
      exact World.ownsRow_nil _ _ _ _
    have HB0 : Hid (Below w4.heap.size w4 w4) := Below.refl _ _
    clear HTZ
    go_wp2
    go_loopw [11, 12] (fun s sk ws => ∃ k : Nat, sk = .int .i64 (k : Int) ∧ k ≤ key.length ∧ Hid (ws.ownsRow w4.heap.size 5 1 s (0 + k) (([] ++ (key).take k).map B)) ∧ Hid (Below w4.heap.size w4 ws)) (fun _ s _ => key.length - (intOf s).toNat)
    case atStart => exact ⟨0, rfl, by omega, HO0, HB0⟩
    case round =>
      clear HO0 HB0
      obtain ⟨k, rfl, hk, hown, hbel⟩ := hrel
      by_cases hlt : k < key.length
      · have hs2 : w4.heap.size ≤ wr.heap.size := by have := hbel.out.size; omega
        have hr2 := HRkey.out.below hbel.out (Nat.le_refl _)
        rcases hr2 with hr2 | ⟨b, o, rfl, hb, hc⟩
        · subst hr2; simp at hlt
        have g1 := hc k hlt
        unfold B at g1
        have HT8 : Hid (True → (key).take (k + 1) = (key).take k ++ [key.getD k 0]) := fun _ => take_getD key k hlt
        clear hc
        generalize key.getD k 0 = y at *
        go_wp2_with (at_builtin; refine append_rd rfl (.tmp 65) (.tmp 70) rfl w4.heap.size i0 hi hz0 hz1 hz2 _ (0 + k) ([] ++ (key).take k) rfl (hown.out.alloc _) (some ⟨wr.heap.size, 0, none⟩) 1 1 [y] rfl rfl (fun e => by cases e) (.inr ⟨wr.heap.size, 0, rfl, by simp, fun j hj => by (have : j = 0 := by simpa using hj); subst this; simp [B]⟩) (by omega) (by simp; omega) ?_; intro v5 w5 hown5 hgrow5)
        have HO5 : Hid (w5.ownsRow w4.heap.size 5 1 v5 (0 + (k + 1)) (([] ++ (key).take (k + 1)).map B)) := by
          rw [HT8.out trivial, ← List.append_assoc]
          exact hown5
        have HB5 : Hid (Below w4.heap.size w4 w5) := hbel.out.trans ((((alloc_below wr _).mono hs2)).grown hgrow5 (by rw [alloc_size]; omega) (own_block hown.out))
        clear hown5 hgrow5
        go_wp2
        exact ⟨⟨k + 1, by go_num, by omega, HO5, HB5⟩, by simp [intOf]; omega⟩
      · obtain rfl : k = key.length := by omega
        have HO1 : Hid (wr.ownsRow w4.heap.size 5 1 u11 (key.length + 0) ((key ++ (List.replicate M 0).take 0).map B)) := by
          have h1 := hown.out
          rw [List.take_of_length_le (by omega)] at h1
          show World.ownsRow _ _ _ _ _ _ _
          simpa using h1
        have HB1b := hbel
        clear hown hbel hk hlt
        go_wp2
        go_loopw [11, 13] (fun s sk ws => ∃ k : Nat, sk = .int .i64 (k : Int) ∧ k ≤ M ∧ Hid (ws.ownsRow w4.heap.size 5 1 s (key.length + k) ((key ++ (List.replicate M 0).take k).map B)) ∧ Hid (Below w4.heap.size w4 ws)) (fun _ s _ => M - (intOf s).toNat)
        case atStart => exact ⟨0, rfl, by omega, HO1, HB1b⟩
        case round =>
          clear HO1 HB1b
          obtain ⟨k, rfl, hk, hown, hbel⟩ := hrel
          by_cases hlt : k < M
          · have hs2 : w4.heap.size ≤ wr.heap.size := by have := hbel.out.size; omega
            have HT8 : Hid (True → (List.replicate M (0 : UInt8)).take (k + 1) = (List.replicate M 0).take k ++ [0]) := fun _ => rep_take M k hlt
            go_wp2_with (at_builtin; refine append_rd rfl (.tmp 77) (.tmp 78) rfl w4.heap.size i0 hi hz0 hz1 hz2 _ (key.length + k) (key ++ (List.replicate M 0).take k) rfl (hown.out.alloc _) (some ⟨wr.heap.size, 0, none⟩) 1 1 [0] rfl rfl (fun e => by cases e) (.inr ⟨wr.heap.size, 0, rfl, by simp, fun j hj => by (have : j = 0 := by simpa using hj); subst this; simp [B]⟩) (by omega) (by simp; omega) ?_; intro v5 w5 hown5 hgrow5)
            have HO5 : Hid (w5.ownsRow w4.heap.size 5 1 v5 (key.length + (k + 1)) ((key ++ (List.replicate M 0).take (k + 1)).map B)) := by
              rw [HT8.out trivial, ← List.append_assoc]
              exact hown5
            have HB5 : Hid (Below w4.heap.size w4 w5) := hbel.out.trans ((((alloc_below wr _).mono hs2)).grown hgrow5 (by rw [alloc_size]; omega) (own_block hown.out))
            clear hown5 hgrow5
            go_wp2
            exact ⟨⟨k + 1, by go_num, by omega, HO5, HB5⟩, by simp [intOf]; omega⟩
          · obtain rfl : k = M := by omega
            have h1 := hown.out
            rw [List.take_of_length_le (by simp)] at h1
            obtain ⟨a9, c9, rfl, hn9, hc9, hm9, _, hr9, _⟩ := own_rd h1
            have HB9 : Hid (Below w.heap.size w wr) := HB4.out.trans (hbel.out.mono HB4.out.size)
            have C9 := hsum_any h a9 ad c9 cd (key ++ List.replicate k 0) data wr (HT.out.below HB9.out) hr9 (HD.out.below HB9.out (Nat.le_refl _)) (by rw [← hn9]; exact hc9) (by unfold maxLen at hm9; omega) (by rw [← hn9]; omega) hcd (by omega) (by omega)
            rw [← hn9, HT2.out trivial] at C9
            have HO9 : Hid (Rd wr a2 TG) := HO4.out.below hbel.out (Nat.le_refl _)
            clear h1 hown hbel hr9 hm9 hc9 hn9
            go_wp2_with fail
            refine C9.mono ?_
            rintro e w10 ⟨a10, rfl, ho10, hb10⟩
            have HB10 : Hid (Below w.heap.size w w10) := HB9.out.trans (hb10.mono HB9.out.size)
            have C11 := same5_any a2 a10 (siz h) (siz h) TG TG w10 (HO9.out.below hb10 (Nat.le_refl _)) ho10.rd (by rw [HL.out trivial]; omega)
            rw [HL.out trivial, decide_eq_true rfl] at C11
            clear C9 ho10 hb10 HB9 HO9
            go_wp2_with fail
            refine C11.mono ?_
            rintro e w11 ⟨rfl, q, rfl⟩
            have HB11 : Hid (Below w.heap.size w (w10.drewN q)) := below_drewN HB10.out q
            clear C11 HB10
            go_wp2
            go_ret
            exact ⟨rfl, HB11.out⟩
end Go.Proofs.YtoclnmjljilfdaaDoor
