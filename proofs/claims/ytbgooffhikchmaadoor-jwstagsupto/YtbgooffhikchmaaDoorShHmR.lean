import Derived.Test.YtbgooffhikchmaaDoorShRSum
import Derived.Test.YtbgooffhikchmaaDoorShIsLaw
namespace Go.Proofs.YtbgooffhikchmaaDoor.Sha
open Go.RowKit
set_option maxRecDepth 100000

theorem rblock5_any (h : Int) (w : World) : Calls Tryd.prog 20 #[.int .i64 h] w fun e w' => e = .returned (.int .i64 (blk h)) ∧ w' = w := by
  by_cases h1 : h = 1
  · subst h1
    go_enter Tryd.func20, Tryd.ntmps20
    go_wp2
    go_ret
    exact ⟨rfl, rfl⟩
  by_cases h2 : h = 2
  · subst h2
    go_enter Tryd.func20, Tryd.ntmps20
    go_wp2
    go_ret
    exact ⟨rfl, rfl⟩
  by_cases h3 : h = 3
  · subst h3
    go_enter Tryd.func20, Tryd.ntmps20
    go_wp2
    go_ret
    exact ⟨rfl, rfl⟩
  have hb : Hid (blk h = 0) := by show _ = _; unfold blk; rw [if_neg h1, if_neg h2, if_neg h3]
  go_enter Tryd.func20, Tryd.ntmps20
  go_wp2
  go_ret
  rw [hb.out]
  exact ⟨rfl, rfl⟩

theorem keyF_len (h : Int) (key : List UInt8) (hl : key.length ≤ 100000000) : (keyF h key).length ≤ 100000000 := by
  unfold keyF
  split
  · rw [sumF_length]; have := siz_le h; omega
  · exact hl
theorem filF_get (h : Int) (key : List UInt8) (k : Nat) (hk : k < blk h) : (filF h key).getD k 0 = (keyF h key).getD k 0 := by
  unfold filF
  rw [List.getD_eq_getElem?_getD, List.getElem?_map, List.getElem?_range hk]
  rfl

set_option maxRecDepth 100000 in
set_option maxHeartbeats 2000000 in
theorem rfil5_any (h : Int) (a : Option Addr) (c : Nat) (key : List UInt8) (x : UInt8) (w : World) (R : Rt w) (hr : Rd w a key) (ha : a = none → key.length = 0 ∧ c = 0) (hl : key.length ≤ 100000000) :
    Calls Tryd.prog 21 #[.int .i64 h, .slice a key.length c, .int .u8 (x.toNat : Int)] w fun e w' => ∃ v, e = .returned v ∧ w'.ownsRow w.heap.size 5 1 v (blk h) ((mskF x (filF h key)).map B) ∧ Below w.heap.size w w' := by
  obtain ⟨i0, hi, hz0, hz1, hz2⟩ := info_parts infoB
  have HRt : Hid (Rt w) := R
  have HR : Hid (Rd w a key) := hr
  have hbl := blk_le h
  have hkl := keyF_len h key hl
  have CS := rsum_any h a c key w R hr ha hl
  obtain ⟨N, hN⟩ : ∃ N, blk h = N := ⟨_, rfl⟩
  have CB : ∀ w, Calls Tryd.prog 20 #[.int .i64 h] w fun e w' => e = .returned (.int .i64 (N : Int)) ∧ w' = w := fun w => by rw [← hN]; exact rblock5_any h w
  have HCB : Hid (∀ w, Calls Tryd.prog 20 #[.int .i64 h] w fun e w' => e = .returned (.int .i64 (N : Int)) ∧ w' = w) := CB
  have HN : Hid (True → blk h = N) := fun _ => hN
  have Hlen : Hid (True → (mskF x (filF h key)).length = N) := fun _ => by rw [mskF_length, filF_length, hN]
  have Htk : Hid (∀ k, k < N → (mskF x (filF h key)).take (k + 1) = (mskF x (filF h key)).take k ++ [(keyF h key).getD k 0 ^^^ x]) := fun k hk => by
    rw [take_msk x (filF h key) k (by rw [filF_length, hN]; exact hk), filF_get h key k (by rw [hN]; exact hk)]
  have HkL : Hid (N < key.length → keyF h key = sumF h key) := fun hlt => by unfold keyF; rw [if_pos (by rw [hN]; exact hlt)]
  have HkS : Hid (¬ N < key.length → keyF h key = key) := fun hlt => by unfold keyF; rw [if_neg (by rw [hN]; exact hlt)]
  rw [hN]
  rw [hN] at hbl
  clear R hr hN CB
  go_enter Tryd.func21, Tryd.ntmps21
  go_wp2_with fail
  refine (HCB.out w).mono ?_
  rintro e w1 ⟨rfl, hw1⟩
  subst w1
  obtain ⟨bq, hbq⟩ : ∃ b, decide (N < key.length) = b := ⟨_, rfl⟩
  have Hbq : Hid (True → decide (N < key.length) = bq) := fun _ => hbq
  go_upto_if 16 with fail
  (try rw [hbq])
  clear hbq
  go_cut [7] from 17 to 19 (fun s wx => ∃ ak ck, s = .slice ak (keyF h key).length ck ∧ Hid (Rd wx ak (keyF h key)) ∧ Hid (Below w.heap.size w wx))
  case first =>
    cases bq
    case true =>
      have He : Hid (True → keyF h key = sumF h key) := fun _ => HkL.out (of_decide_eq_true (Hbq.out trivial))
      go_wp2_with fail
      refine CS.mono ?_
      rintro e w1 ⟨a1, c1, rfl, hc1, hm1, hn1, hr1, hbl1, hb1⟩
      have HR1 : Hid (Rd w1 a1 (sumF h key)) := hr1
      have HB1 : Hid (Below w.heap.size w w1) := hb1
      clear CS hc1 hm1 hn1 hr1 hbl1 hb1
      go_wp2_with fail
      go_meet
      refine ⟨a1, c1, ?_, ?_, HB1⟩
      · rw [He.out trivial, sumF_length]
      · rw [He.out trivial]; exact HR1
    case false =>
      have He : Hid (True → keyF h key = key) := fun _ => HkS.out (of_decide_eq_false (Hbq.out trivial))
      go_wp2_with fail
      go_meet
      refine ⟨a, c, ?_, ?_, Below.refl _ _⟩
      · rw [He.out trivial]
      · rw [He.out trivial]; exact HR
  case rest =>
  obtain ⟨ak, ck, rfl, HRk, HBk⟩ := hcut
  have hgr : w.heap.size ≤ wc.heap.size := HBk.out.size
  have HO0 : Hid (wc.ownsRow wc.heap.size 5 1 (.slice none 0 0) 0 (((mskF x (filF h key)).take 0).map B)) := World.ownsRow_nil _ _ _ _
  clear CS HkL HkS HR HRt ha
  generalize hMF : mskF x (filF h key) = MF at *
  have HMF : Hid (True → mskF x (filF h key) = MF) := fun _ => hMF
  clear hMF
  generalize keyF h key = KF at *
  go_wp2
  go_loopw [8, 9] (fun s s9 ws => ∃ k : Nat, s9 = .int .i64 (k : Int) ∧ k ≤ N ∧ Hid (ws.ownsRow wc.heap.size 5 1 s k ((MF.take k).map B)) ∧ Hid (Below wc.heap.size wc ws)) (fun _ s _ => N - (intOf s).toNat)
  case atStart => exact ⟨0, rfl, by omega, HO0, Below.refl _ _⟩
  case round =>
    clear HO0
    obtain ⟨k, rfl, hk, hown, hbel⟩ := hrel
    have hs2 : wc.heap.size ≤ wr.heap.size := hbel.out.size
    go_wp2_with fail
    refine (HCB.out _).mono ?_
    rintro e w2 ⟨rfl, hw2⟩
    subst w2
    by_cases hlt : k < N
    · have HTk : Hid (True → MF.take (k + 1) = MF.take k ++ [KF.getD k 0 ^^^ x]) := fun _ => Htk.out k hlt
      by_cases hk2 : k < KF.length
      · have hr2 := HRk.out.below hbel.out (Nat.le_refl _)
        rcases hr2 with hr2 | ⟨b, o, rfl, hb, hc⟩
        · subst hr2; simp at hk2
        have g1 := hc k hk2
        unfold B at g1
        have hx := xorB (KF.getD k 0) x
        clear hc
        generalize KF.getD k 0 = y at *
        generalize y ^^^ x = z at *
        go_wp2_with (at_builtin; refine append_rd rfl (.tmp 34) (.tmp 38) rfl wc.heap.size i0 hi hz0 hz1 hz2 _ k (MF.take k) rfl (hown.out.alloc _) (some ⟨wr.heap.size, 0, none⟩) 1 1 [z] rfl rfl (fun e => by cases e) (.inr ⟨wr.heap.size, 0, rfl, by simp, fun j hj => by (have : j = 0 := by simpa using hj); subst this; simp [B]⟩) (by omega) (by simp; omega) ?_; intro v5 w5 hown5 hgrow5)
        have HO5 : Hid (w5.ownsRow wc.heap.size 5 1 v5 (k + 1) ((MF.take (k + 1)).map B)) := by
          rw [HTk.out trivial, List.map_append]
          rw [List.map_append] at hown5
          exact hown5
        have HB5 : Hid (Below wc.heap.size wc w5) := hbel.out.trans (((alloc_below wr _).mono hs2).grown hgrow5 (by rw [alloc_size]; omega) (own_block hown.out))
        clear hown5 hgrow5
        go_wp2
        exact ⟨⟨k + 1, by go_num, by omega, HO5, HB5⟩, by simp [intOf]; omega⟩
      · have h0 : KF.getD k 0 = 0 := by rw [List.getD_eq_getElem?_getD, List.getElem?_eq_none (by omega)]; rfl
        rw [h0] at HTk
        have hx : bits .xor .u8 0 (x.toNat : Int) = ((0 ^^^ x : UInt8).toNat : Int) := xorB 0 x
        clear h0
        generalize (0 ^^^ x : UInt8) = z at *
        go_wp2_with (at_builtin; refine append_rd rfl (.tmp 34) (.tmp 38) rfl wc.heap.size i0 hi hz0 hz1 hz2 _ k (MF.take k) rfl (hown.out.alloc _) (some ⟨wr.heap.size, 0, none⟩) 1 1 [z] rfl rfl (fun e => by cases e) (.inr ⟨wr.heap.size, 0, rfl, by simp, fun j hj => by (have : j = 0 := by simpa using hj); subst this; simp [B]⟩) (by omega) (by simp; omega) ?_; intro v5 w5 hown5 hgrow5)
        have HO5 : Hid (w5.ownsRow wc.heap.size 5 1 v5 (k + 1) ((MF.take (k + 1)).map B)) := by
          rw [HTk.out trivial, List.map_append]
          rw [List.map_append] at hown5
          exact hown5
        have HB5 : Hid (Below wc.heap.size wc w5) := hbel.out.trans (((alloc_below wr _).mono hs2).grown hgrow5 (by rw [alloc_size]; omega) (own_block hown.out))
        clear hown5 hgrow5
        go_wp2
        exact ⟨⟨k + 1, by go_num, by omega, HO5, HB5⟩, by simp [intOf]; omega⟩
    · obtain rfl : k = N := by omega
      have HO6 : Hid (wr.ownsRow wc.heap.size 5 1 u8 k (MF.map B)) := by
        have h1 := hown.out
        rw [List.take_of_length_le (by rw [Hlen.out trivial]; exact Nat.le_refl _)] at h1
        exact h1
      clear hown
      go_wp2
      go_ret
      rw [HMF.out trivial]
      exact ⟨_, rfl, own_base HO6.out hgr, HBk.out.trans (hbel.out.mono hgr)⟩

set_option maxRecDepth 100000 in
set_option maxHeartbeats 4000000 in
theorem rhsum_is (h : Int) (ak ad : Option Addr) (ck cd : Nat) (key data : List UInt8) (w : World) (R : Rt w) (hk : Rd w ak key) (hd : Rd w ad data) (hak : ak = none → key.length = 0 ∧ ck = 0) (hkl : key.length ≤ 10000000) (hdl : data.length ≤ 10000000) (hh : isH h) :
    Calls Tryd.prog 15 #[.int .i64 h, .slice ak key.length ck, .slice ad data.length cd] w fun e w' => ∃ a' c', e = .returned (.slice a' (siz h) c') ∧ siz h ≤ c' ∧ c' ≤ maxLen ∧ (a' = none → siz h = 0 ∧ c' = 0) ∧ Rd w' a' (tagF h key data) ∧ (∀ x, a' = some x → w.heap.size ≤ x.block) ∧ Below w.heap.size w w' := by
  obtain ⟨i0, hi, hz0, hz1, hz2⟩ := info_parts infoB
  have HRt : Hid (Rt w) := R
  have HK : Hid (Rd w ak key) := hk
  have HD : Hid (Rd w ad data) := hd
  have HAK : Hid (ak = none → key.length = 0 ∧ ck = 0) := hak
  have hbp := blk_pos hh
  have hsl := siz_le h
  have CB := rblock5_any h w
  have C1 := rfil5_any h ak ck key 54 w R hk hak (by omega)
  rw [show ((54 : UInt8).toNat : Int) = 54 from rfl] at C1
  have HF : Hid (True → (filF h key).length = blk h) := fun _ => filF_length h key
  have Htag : Hid (True → tagF h key data = sumF h (mskF 92 (filF h key) ++ sumF h (mskF 54 (filF h key) ++ data))) := fun _ => rfl
  have Hf92 : Hid (∀ w2, Below w.heap.size w w2 → Calls Tryd.prog 21 #[.int .i64 h, .slice ak key.length ck, .int .u8 92] w2 fun e w' => ∃ v, e = .returned v ∧ w'.ownsRow w2.heap.size 5 1 v (blk h) ((mskF 92 (filF h key)).map B) ∧ Below w2.heap.size w2 w') := fun w2 hb => by
    have C := rfil5_any h ak ck key 92 w2 (HRt.out.below hb (Nat.le_refl _)) (HK.out.below hb (Nat.le_refl _)) HAK.out (by omega)
    rw [show ((92 : UInt8).toNat : Int) = 92 from rfl] at C
    exact C
  obtain ⟨N, hN⟩ : ∃ N, blk h = N := ⟨_, rfl⟩
  rw [hN] at hbp CB C1 HF Hf92
  have hN0 : 0 < N := hbp.1
  have hN1 : N ≤ 128 := hbp.2
  clear R hk hd hak hbp hN
  generalize filF h key = F at *
  go_enter Tryd.func15, Tryd.ntmps15
  go_wp2_with fail
  refine CB.mono ?_
  rintro e w1 ⟨rfl, hw1⟩
  subst w1
  go_wp2_with fail
  refine C1.mono ?_
  rintro e w1 ⟨v1, rfl, ho1, hb1⟩
  have HO1 : Hid (w1.ownsRow w.heap.size 5 1 v1 (N + 0) ((mskF 54 F ++ data.take 0).map B)) := by
    rw [List.take_zero, List.append_nil]; exact ho1
  have HB1 : Hid (Below w.heap.size w w1) := hb1
  clear CB C1 ho1 hb1
  go_wp2
  go_loopw [7, 8] (fun s s8 ws => ∃ k : Nat, s8 = .int .i64 (k : Int) ∧ k ≤ data.length ∧ Hid (ws.ownsRow w.heap.size 5 1 s (N + k) ((mskF 54 F ++ data.take k).map B)) ∧ Hid (Below w.heap.size w ws)) (fun _ s _ => data.length - (intOf s).toNat)
  case atStart => exact ⟨0, rfl, by omega, HO1, HB1⟩
  case round =>
    clear HO1 HB1
    obtain ⟨k, rfl, hk, hown, hbel⟩ := hrel
    have hs2 : w.heap.size ≤ wr.heap.size := hbel.out.size
    by_cases hlt : k < data.length
    · have hr2 := HD.out.below hbel.out (Nat.le_refl _)
      rcases hr2 with hr2 | ⟨b, o, rfl, hb, hc⟩
      · subst hr2; simp at hlt
      have g1 := hc k hlt
      unfold B at g1
      have HT8 : Hid (True → data.take (k + 1) = data.take k ++ [data.getD k 0]) := fun _ => take_getD data k hlt
      clear hc
      generalize data.getD k 0 = z at *
      go_wp2_with (at_builtin; refine append_rd rfl (.tmp 24) (.tmp 29) rfl w.heap.size i0 hi hz0 hz1 hz2 _ (N + k) (mskF 54 F ++ data.take k) rfl (hown.out.alloc _) (some ⟨wr.heap.size, 0, none⟩) 1 1 [z] rfl rfl (fun e => by cases e) (.inr ⟨wr.heap.size, 0, rfl, by simp, fun j hj => by (have : j = 0 := by simpa using hj); subst this; simp [B]⟩) (by omega) (by simp; omega) ?_; intro v5 w5 hown5 hgrow5)
      have HO5 : Hid (w5.ownsRow w.heap.size 5 1 v5 (N + (k + 1)) ((mskF 54 F ++ data.take (k + 1)).map B)) := by
        rw [HT8.out trivial, ← List.append_assoc]
        exact hown5
      have HB5 : Hid (Below w.heap.size w w5) := hbel.out.trans (((alloc_below wr _).mono hs2).grown hgrow5 (by rw [alloc_size]; omega) (own_block hown.out))
      clear hown5 hgrow5
      go_wp2
      exact ⟨⟨k + 1, by go_num, by omega, HO5, HB5⟩, by simp [intOf]; omega⟩
    · obtain rfl : k = data.length := by omega
      have HO6 : Hid (wr.ownsRow w.heap.size 5 1 u7 (N + data.length) ((mskF 54 F ++ data).map B)) := by
        have h1 := hown.out
        rw [List.take_of_length_le (Nat.le_refl _)] at h1
        exact h1
      obtain ⟨a2, c2, rfl, hl2, hc2, hm2, hn2, hr2, hbl2⟩ := own_rd HO6.out
      have C2 := rsum_any h a2 c2 (mskF 54 F ++ data) wr (HRt.out.below hbel.out (Nat.le_refl _)) hr2 (by rw [← hl2]; exact hn2) (by rw [← hl2]; omega)
      rw [← hl2] at C2
      clear hown HO6 hr2 hn2 hbl2 hk hlt hl2 hc2 hm2
      go_wp2_with fail
      refine C2.mono ?_
      rintro e w2 ⟨a3, c3, rfl, hc3, hm3, hn3, hr3, hbl3, hb3⟩
      have HI : Hid (Rd w2 a3 (sumF h (mskF 54 F ++ data))) := hr3
      have HB2 : Hid (Below w.heap.size w w2) := hbel.out.trans (hb3.mono hbel.out.size)
      have HIl : Hid (True → (sumF h (mskF 54 F ++ data)).length = siz h) := fun _ => sumF_length _ _
      have C3 := Hf92.out w2 HB2.out
      clear C2 hc3 hm3 hn3 hr3 hbl3 hb3 hbel
      generalize sumF h (mskF 54 F ++ data) = I at *
      go_wp2_with fail
      refine C3.mono ?_
      rintro e w3 ⟨v3, rfl, ho3, hb3⟩
      have HO3 : Hid (w3.ownsRow w2.heap.size 5 1 v3 (N + 0) ((mskF 92 F ++ I.take 0).map B)) := by
        rw [List.take_zero, List.append_nil]; exact ho3
      have HB3 : Hid (Below w2.heap.size w2 w3) := hb3
      have hg2 : w.heap.size ≤ w2.heap.size := HB2.out.size
      clear C3 ho3 hb3
      go_wp2
      go_loopw [10, 11] (fun s s8 ws => ∃ k : Nat, s8 = .int .i64 (k : Int) ∧ k ≤ siz h ∧ Hid (ws.ownsRow w2.heap.size 5 1 s (N + k) ((mskF 92 F ++ I.take k).map B)) ∧ Hid (Below w2.heap.size w2 ws)) (fun _ s _ => siz h - (intOf s).toNat)
      case atStart => exact ⟨0, rfl, by omega, HO3, HB3⟩
      case round =>
        clear HO3 HB3
        obtain ⟨k, rfl, hk, hown, hbel⟩ := hrel
        have hs2 : w2.heap.size ≤ wr.heap.size := hbel.out.size
        by_cases hlt : k < siz h
        · have hlI : k < I.length := by rw [HIl.out trivial]; exact hlt
          have hr2 := HI.out.below hbel.out (Nat.le_refl _)
          rcases hr2 with hr2 | ⟨b, o, rfl, hb, hc⟩
          · subst hr2; simp at hlI
          have g1 := hc k hlI
          unfold B at g1
          have HT8 : Hid (True → I.take (k + 1) = I.take k ++ [I.getD k 0]) := fun _ => take_getD I k hlI
          clear hc hlI
          generalize I.getD k 0 = z at *
          go_wp2_with (at_builtin; refine append_rd rfl (.tmp 43) (.tmp 48) rfl w2.heap.size i0 hi hz0 hz1 hz2 _ (N + k) (mskF 92 F ++ I.take k) rfl (hown.out.alloc _) (some ⟨wr.heap.size, 0, none⟩) 1 1 [z] rfl rfl (fun e => by cases e) (.inr ⟨wr.heap.size, 0, rfl, by simp, fun j hj => by (have : j = 0 := by simpa using hj); subst this; simp [B]⟩) (by omega) (by simp; omega) ?_; intro v5 w5 hown5 hgrow5)
          have HO5 : Hid (w5.ownsRow w2.heap.size 5 1 v5 (N + (k + 1)) ((mskF 92 F ++ I.take (k + 1)).map B)) := by
            rw [HT8.out trivial, ← List.append_assoc]
            exact hown5
          have HB5 : Hid (Below w2.heap.size w2 w5) := hbel.out.trans (((alloc_below wr _).mono hs2).grown hgrow5 (by rw [alloc_size]; omega) (own_block hown.out))
          clear hown5 hgrow5
          go_wp2
          exact ⟨⟨k + 1, by go_num, by omega, HO5, HB5⟩, by simp [intOf]; omega⟩
        · obtain rfl : k = siz h := by omega
          have HO6 : Hid (wr.ownsRow w2.heap.size 5 1 u10 (N + siz h) ((mskF 92 F ++ I).map B)) := by
            have h1 := hown.out
            rw [List.take_of_length_le (by rw [HIl.out trivial]; exact Nat.le_refl _)] at h1
            exact h1
          have HB4 : Hid (Below w.heap.size w wr) := HB2.out.trans (hbel.out.mono hg2)
          obtain ⟨a4, c4, rfl, hl4, hc4, hm4, hn4, hr4, hbl4⟩ := own_rd HO6.out
          have C4 := rsum_any h a4 c4 (mskF 92 F ++ I) wr (HRt.out.below HB4.out (Nat.le_refl _)) hr4 (by rw [← hl4]; exact hn4) (by rw [← hl4]; omega)
          rw [← hl4, ← Htag.out trivial] at C4
          clear hown HO6 hr4 hn4 hbl4 hl4 hc4 hm4 hbel
          go_wp2_with fail
          refine C4.mono ?_
          rintro e w4 ⟨a5, c5, rfl, hc5, hm5, hn5, hr5, hbl5, hb5⟩
          have HR5 : Hid (Rd w4 a5 (tagF h key data)) := hr5
          have HB5 : Hid (Below w.heap.size w w4) := HB4.out.trans (hb5.mono HB4.out.size)
          have HN5 : Hid (a5 = none → siz h = 0 ∧ c5 = 0) := hn5
          have HL5 : Hid (∀ x, a5 = some x → w.heap.size ≤ x.block) := fun x e => Nat.le_trans HB4.out.size (hbl5 x e)
          clear C4 hr5 hb5 hn5 hbl5
          go_wp2
          go_ret
          exact ⟨a5, c5, rfl, hc5, hm5, HN5.out, HR5.out, HL5.out, HB5.out⟩

/-- The document's tag is the program's. -/
theorem rhsum_any (h : Int) (ak ad : Option Addr) (ck cd : Nat) (key data : List UInt8) (w : World) (R : Rt w) (hk : Rd w ak key) (hd : Rd w ad data) (hak : ak = none → key.length = 0 ∧ ck = 0) (hkl : key.length ≤ 10000000) (hdl : data.length ≤ 10000000) :
    Calls Tryd.prog 15 #[.int .i64 h, .slice ak key.length ck, .slice ad data.length cd] w fun e w' => ∃ a' c', e = .returned (.slice a' (siz h) c') ∧ siz h ≤ c' ∧ c' ≤ maxLen ∧ (a' = none → siz h = 0 ∧ c' = 0) ∧ Rd w' a' (tagF h key data) ∧ (∀ x, a' = some x → w.heap.size ≤ x.block) ∧ Below w.heap.size w w' := by
  by_cases hh : isH h
  · exact rhsum_is h ak ad ck cd key data w R hk hd hak hkl hdl hh
  · have hz := (siz_not hh []).1
    have Hb : Hid (True → blk h = 0) := fun _ => (blk_siz h).2 hz
    have CB := rblock5_any h w
    rw [Hb.out trivial] at CB
    have HT : Hid (True → tagF h key data = []) := fun _ => tagF_not hh key data
    have HZ : Hid (True → siz h = 0) := fun _ => hz
    clear R hk hd hak hz
    go_enter Tryd.func15, Tryd.ntmps15
    go_wp2_with fail
    refine CB.mono ?_
    rintro e w1 ⟨rfl, hw1⟩
    subst w1
    clear CB
    go_wp2
    go_ret
    rw [HT.out trivial, HZ.out trivial]
    exact ⟨none, 0, rfl, Nat.le_refl _, by unfold maxLen; omega, fun _ => ⟨rfl, rfl⟩, .inl rfl, (fun x e => by cases e), Below.refl _ _⟩

end Go.Proofs.YtbgooffhikchmaaDoor.Sha