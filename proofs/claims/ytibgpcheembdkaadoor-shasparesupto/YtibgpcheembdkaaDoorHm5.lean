import Derived.Test.YtibgpcheembdkaaDoorHm4
import Derived.Test.YtibgpcheembdkaaDoorRefF
namespace Go.Proofs.YtibgpcheembdkaaDoor
open Go.RowKit

theorem take_getD (l : List UInt8) (k : Nat) (h : k < l.length) : l.take (k + 1) = l.take k ++ [l.getD k 0] := by
  rw [List.take_succ_eq_append_getElem h, List.getD_eq_getElem?_getD, List.getElem?_eq_getElem h]
  rfl
theorem take_msk (x : UInt8) (l : List UInt8) (k : Nat) (h : k < l.length) : (mskF x l).take (k + 1) = (mskF x l).take k ++ [l.getD k 0 ^^^ x] := by
  rw [List.take_succ_eq_append_getElem (by rw [mskF_length]; exact h)]
  simp [mskF, List.getElem?_eq_getElem h]

set_option maxHeartbeats 1000000 in
theorem same5_any (a1 a2 : Option Addr) (c1 c2 : Nat) (l1 l2 : List UInt8) (w : World) (hr1 : Rd w a1 l1) (hr2 : Rd w a2 l2) (hlen : l1.length ≤ 281474976710656) :
    Calls Tryd.prog 37 #[.slice a1 l1.length c1, .slice a2 l2.length c2] w fun e w' => e = .returned (.bool (decide (l1 = l2))) ∧ ∃ q, w' = w.drewN q := by
  by_cases hl : l1.length = l2.length
  · have hl' : ((l1.length : Int) != (l2.length : Int)) = false := by simp; omega
    have Hl : Hid (l1.length = l2.length) := hl
    clear hl
    go_enter Tryd.func37, Tryd.ntmps37
    go_wp2
    go_loopw [5] (fun s wr => ∃ k q : Nat, k ≤ l1.length ∧ s = .int .i64 k ∧ Hid (l1.take k = l2.take k) ∧ wr = w.drewN q) (fun s _ => l1.length - (intOf s).toNat)
    case atStart => exact ⟨0, 0, Nat.zero_le _, rfl, rfl, rfl⟩
    case round =>
      obtain ⟨k, q, hk, rfl, Ht, rfl⟩ := hrel
      by_cases hlt : k < l1.length
      · rcases hr1 with hr1 | ⟨b1, o1, rfl, hb1, hc1⟩
        · subst hr1; simp at hlt
        rcases hr2 with hr2 | ⟨b2, o2, rfl, hb2, hc2⟩
        · subst hr2; have h := Hl.out; rw [List.length_nil] at h; omega
        have hlt2 : k < l2.length := by have := Hl.out; omega
        have g1 := hc1 k hlt
        have g2 := hc2 k hlt2
        rw [List.getD_eq_getElem?_getD, List.getElem?_eq_getElem hlt, Option.getD_some] at g1
        rw [List.getD_eq_getElem?_getD, List.getElem?_eq_getElem hlt2, Option.getD_some] at g2
        have Hx : Hid (l1[k] = l2[k] ↔ l1.take (k + 1) = l2.take (k + 1)) := take_iff hlt hlt2 Ht.out
        unfold B at g1 g2
        clear hc1 hc2
        generalize l1[k] = x at g1 Hx
        generalize l2[k] = y at g2 Hx
        have hltI : (k : Int) < (l2.length : Int) := by omega
        have hne := ne_byte x y
        by_cases hxy : x = y
        · have hd : ((x.toNat : Int) != (y.toNat : Int)) = false := by rw [hne]; simp [hxy]
          have Ht1 : Hid (l1.take (k + 1) = l2.take (k + 1)) := Hx.out.1 hxy
          clear hne hxy Hx
          go_wp2
          go_quiet (fail)
          go_wp2
          go_roundw
          case rel => exact ⟨k + 1, _, by omega, by go_num, Ht1, rfl⟩
          case measure => simp [intOf]; omega
        · have hd : ((x.toNat : Int) != (y.toNat : Int)) = true := by rw [hne]; simp [hxy]
          have Hf : Hid (decide (l1 = l2) = false) := by
            show decide (l1 = l2) = false
            rw [decide_eq_false_iff_not]
            intro e
            exact hxy (Hx.out.2 (by rw [e]))
          clear hne hxy Hx
          go_wp2
          go_quiet (fail)
          go_wp2
          go_ret
          rw [Hf.out]
          exact ⟨rfl, _, World.drewN_drewN _ _ _⟩
      · have He : Hid (decide (l1 = l2) = true) := by
          show decide (l1 = l2) = true
          have h1 := Ht.out
          have h2 := Hl.out
          rw [List.take_of_length_le (by omega), List.take_of_length_le (by omega)] at h1
          simpa using h1
        clear hr1 hr2
        go_wp2
        go_ret
        rw [He.out]
        exact ⟨rfl, _, rfl⟩
  · have hl' : ((l1.length : Int) != (l2.length : Int)) = true := by simp; omega
    have Hf : Hid (decide (l1 = l2) = false) := by show _ = _; simp; intro e; subst e; exact hl rfl
    clear hl
    go_enter Tryd.func37, Tryd.ntmps37
    go_wp2
    go_ret
    rw [Hf.out]
    exact ⟨rfl, 0, rfl⟩

theorem block5_any (h : Int) (w : World) : Calls Tryd.prog 33 #[.int .i64 h] w fun e w' => e = .returned (.int .i64 (blk h)) ∧ w' = w := by
  by_cases h1 : h = 1
  · subst h1
    go_enter Tryd.func33, Tryd.ntmps33
    go_wp2
    go_ret
    exact ⟨rfl, rfl⟩
  by_cases h2 : h = 2
  · subst h2
    go_enter Tryd.func33, Tryd.ntmps33
    go_wp2
    go_ret
    exact ⟨rfl, rfl⟩
  by_cases h3 : h = 3
  · subst h3
    go_enter Tryd.func33, Tryd.ntmps33
    go_wp2
    go_ret
    exact ⟨rfl, rfl⟩
  have hb : Hid (blk h = 0) := by show _ = _; unfold blk; rw [if_neg h1, if_neg h2, if_neg h3]
  go_enter Tryd.func33, Tryd.ntmps33
  go_wp2
  go_ret
  rw [hb.out]
  exact ⟨rfl, rfl⟩


set_option maxHeartbeats 1000000 in
theorem copied5_any (a : Option Addr) (c B0 : Nat) (l : List UInt8) (w : World) (hB : w.heap.size ≤ B0) (hB2 : B0 ≤ w.heap.size) (hr : Rd w a l) (hl : l.length ≤ 1000000000) :
    Calls Tryd.prog 43 #[.slice a l.length c] w fun e w' => ∃ v, e = .returned v ∧ w'.ownsRow B0 5 1 v l.length (l.map B) ∧ Below B0 w w' := by
  obtain ⟨i0, hi, hz0, hz1, hz2⟩ := info_parts infoB
  have HRl : Hid (Rd w a l) := hr
  have HO0 : Hid (w.ownsRow B0 5 1 (.slice none 0 0) (0 + 0) (([] ++ (l).take 0 : List UInt8).map B)) := by
    show World.ownsRow _ _ _ _ _ _ _
    exact World.ownsRow_nil _ _ _ _
  have HB0 : Hid (Below B0 w w) := Below.refl _ _
  clear hr
  go_enter Tryd.func43, Tryd.ntmps43
  go_wp2
  go_loopw [3, 4] (fun s sk ws => ∃ k : Nat, sk = .int .i64 (k : Int) ∧ k ≤ l.length ∧ Hid (ws.ownsRow B0 5 1 s (0 + k) (([] ++ (l).take k).map B)) ∧ Hid (Below B0 w ws)) (fun _ s _ => l.length - (intOf s).toNat)
  case atStart => exact ⟨0, rfl, by omega, HO0, HB0⟩
  case round =>
    clear HO0 HB0
    obtain ⟨k, rfl, hk, hown, hbel⟩ := hrel
    by_cases hlt : k < l.length
    · have hs2 : B0 ≤ wr.heap.size := by have := hbel.out.size; omega
      have hr2 := HRl.out.below hbel.out hB
      rcases hr2 with hr2 | ⟨b, o, rfl, hb, hc⟩
      · subst hr2; simp at hlt
      have g1 := hc k hlt
      unfold B at g1
      have HT8 : Hid (True → (l).take (k + 1) = (l).take k ++ [l.getD k 0]) := fun _ => take_getD l k hlt
      clear hc
      generalize l.getD k 0 = y at *
      go_wp2_with (at_builtin; refine append_rd rfl (.tmp 11) (.tmp 16) rfl B0 i0 hi hz0 hz1 hz2 _ (0 + k) ([] ++ (l).take k) rfl (hown.out.alloc _) (some ⟨wr.heap.size, 0, none⟩) 1 1 [y] rfl rfl (fun e => by cases e) (.inr ⟨wr.heap.size, 0, rfl, by simp, fun j hj => by (have : j = 0 := by simpa using hj); subst this; simp [B]⟩) (by omega) (by simp; omega) ?_; intro v5 w5 hown5 hgrow5)
      have HO5 : Hid (w5.ownsRow B0 5 1 v5 (0 + (k + 1)) (([] ++ (l).take (k + 1)).map B)) := by
        rw [HT8.out trivial, ← List.append_assoc]
        exact hown5
      have HB5 : Hid (Below B0 w w5) := hbel.out.trans ((((alloc_below wr _).mono hs2)).grown hgrow5 (by rw [alloc_size]; omega) (own_block hown.out))
      clear hown5 hgrow5
      go_wp2
      exact ⟨⟨k + 1, by go_num, by omega, HO5, HB5⟩, by simp [intOf]; omega⟩
    · obtain rfl : k = l.length := by omega
      go_wp2
      go_ret
      refine ⟨_, rfl, ?_, hbel.out⟩
      have h1 := hown.out
      rw [List.take_of_length_le (by omega)] at h1
      simpa using h1

/-- The marks behind a list. -/
def mrk : List UInt8 := (List.range 200).map fun i => UInt8.ofNat (7 + i)
theorem mrk_length : mrk.length = 200 := by simp [mrk]
theorem mrk_take (k : Nat) (h : k < 200) : mrk.take (k + 1) = mrk.take k ++ [UInt8.ofNat (7 + k)] := by
  rw [List.take_succ_eq_append_getElem (by rw [mrk_length]; exact h)]
  simp [mrk]
set_option maxRecDepth 100000 in
set_option maxHeartbeats 1000000 in
theorem marked5_any (a : Option Addr) (c B0 : Nat) (l : List UInt8) (w : World) (hB : w.heap.size ≤ B0) (hB2 : B0 ≤ w.heap.size) (hr : Rd w a l) (hl : l.length ≤ 1000000000) :
    Calls Tryd.prog 39 #[.slice a l.length c] w fun e w' => ∃ v, e = .returned v ∧ w'.ownsRow B0 5 1 v (l.length + 200) ((l ++ mrk).map B) ∧ Below B0 w w' := by
  obtain ⟨i0, hi, hz0, hz1, hz2⟩ := info_parts infoB
  have HRl : Hid (Rd w a l) := hr
  have HO0 : Hid (w.ownsRow B0 5 1 (.slice none 0 0) (0 + 0) (([] ++ (l).take 0 : List UInt8).map B)) := by
    show World.ownsRow _ _ _ _ _ _ _
    exact World.ownsRow_nil _ _ _ _
  have HB0 : Hid (Below B0 w w) := Below.refl _ _
  clear hr
  go_enter Tryd.func39, Tryd.ntmps39
  go_wp2
  go_loopw [3, 4] (fun s sk ws => ∃ k : Nat, sk = .int .i64 (k : Int) ∧ k ≤ l.length ∧ Hid (ws.ownsRow B0 5 1 s (0 + k) (([] ++ (l).take k).map B)) ∧ Hid (Below B0 w ws)) (fun _ s _ => l.length - (intOf s).toNat)
  case atStart => exact ⟨0, rfl, by omega, HO0, HB0⟩
  case round =>
    clear HO0 HB0
    obtain ⟨k, rfl, hk, hown, hbel⟩ := hrel
    by_cases hlt : k < l.length
    · have hs2 : B0 ≤ wr.heap.size := by have := hbel.out.size; omega
      have hr2 := HRl.out.below hbel.out hB
      rcases hr2 with hr2 | ⟨b, o, rfl, hb, hc⟩
      · subst hr2; simp at hlt
      have g1 := hc k hlt
      unfold B at g1
      have HT8 : Hid (True → (l).take (k + 1) = (l).take k ++ [l.getD k 0]) := fun _ => take_getD l k hlt
      clear hc
      generalize l.getD k 0 = y at *
      go_wp2_with (at_builtin; refine append_rd rfl (.tmp 12) (.tmp 17) rfl B0 i0 hi hz0 hz1 hz2 _ (0 + k) ([] ++ (l).take k) rfl (hown.out.alloc _) (some ⟨wr.heap.size, 0, none⟩) 1 1 [y] rfl rfl (fun e => by cases e) (.inr ⟨wr.heap.size, 0, rfl, by simp, fun j hj => by (have : j = 0 := by simpa using hj); subst this; simp [B]⟩) (by omega) (by simp; omega) ?_; intro v5 w5 hown5 hgrow5)
      have HO5 : Hid (w5.ownsRow B0 5 1 v5 (0 + (k + 1)) (([] ++ (l).take (k + 1)).map B)) := by
        rw [HT8.out trivial, ← List.append_assoc]
        exact hown5
      have HB5 : Hid (Below B0 w w5) := hbel.out.trans ((((alloc_below wr _).mono hs2)).grown hgrow5 (by rw [alloc_size]; omega) (own_block hown.out))
      clear hown5 hgrow5
      go_wp2
      exact ⟨⟨k + 1, by go_num, by omega, HO5, HB5⟩, by simp [intOf]; omega⟩
    · obtain rfl : k = l.length := by omega
      have HO1 : Hid (wr.ownsRow B0 5 1 u3 (l.length + 0) ((l ++ mrk.take 0).map B)) := by
        have h1 := hown.out
        rw [List.take_of_length_le (by omega)] at h1
        show World.ownsRow _ _ _ _ _ _ _
        simpa using h1
      have HB1 := hbel
      clear hown hbel hk hlt
      go_wp2
      go_loopw [3, 5] (fun s sk ws => ∃ k : Nat, sk = .int .i64 (k : Int) ∧ k ≤ 200 ∧ Hid (ws.ownsRow B0 5 1 s (l.length + k) ((l ++ (mrk).take k).map B)) ∧ Hid (Below B0 w ws)) (fun _ s _ => 200 - (intOf s).toNat)
      case atStart => exact ⟨0, rfl, by omega, HO1, HB1⟩
      case round =>
        clear HO1 HB1
        obtain ⟨k, rfl, hk, hown, hbel⟩ := hrel
        by_cases hlt : k < 200
        · have hs2 : B0 ≤ wr.heap.size := by have := hbel.out.size; omega
          have HT8 : Hid (True → mrk.take (k + 1) = mrk.take k ++ [UInt8.ofNat (7 + k)]) := fun _ => mrk_take k hlt
          have hwk : IntKind.u8.wrap (7 + (k : Int)) = ((UInt8.ofNat (7 + k)).toNat : Int) := by rw [IntKind.wrap_u8', UInt8.toNat_ofNat']; omega
          generalize UInt8.ofNat (7 + k) = y at *
          go_wp2_with (at_builtin; refine append_rd rfl (.tmp 23) (.tmp 27) rfl B0 i0 hi hz0 hz1 hz2 _ (l.length + k) (l ++ (mrk).take k) rfl (hown.out.alloc _) (some ⟨wr.heap.size, 0, none⟩) 1 1 [y] rfl rfl (fun e => by cases e) (.inr ⟨wr.heap.size, 0, rfl, by simp, fun j hj => by (have : j = 0 := by simpa using hj); subst this; simp [B]⟩) (by omega) (by simp; omega) ?_; intro v5 w5 hown5 hgrow5)
          have HO5 : Hid (w5.ownsRow B0 5 1 v5 (l.length + (k + 1)) ((l ++ (mrk).take (k + 1)).map B)) := by
            rw [HT8.out trivial, ← List.append_assoc]
            exact hown5
          have HB5 : Hid (Below B0 w w5) := hbel.out.trans ((((alloc_below wr _).mono hs2)).grown hgrow5 (by rw [alloc_size]; omega) (own_block hown.out))
          clear hown5 hgrow5
          go_wp2
          exact ⟨⟨k + 1, by go_num, by omega, HO5, HB5⟩, by simp [intOf]; omega⟩
        · obtain rfl : k = 200 := by omega
          go_wp2
          go_ret
          refine ⟨_, rfl, ?_, hbel.out⟩
          have h1 := hown.out
          rw [List.take_of_length_le (by rw [mrk_length]; omega)] at h1
          exact h1

set_option maxHeartbeats 1000000 in
theorem xor5_any (a am : Option Addr) (c cm B0 : Nat) (l more : List UInt8) (x : UInt8) (w : World) (hB : w.heap.size ≤ B0) (hB2 : B0 ≤ w.heap.size) (hr : Rd w a l) (hm : Rd w am more) (hl : l.length ≤ 1000000000) (hml : more.length ≤ 1000000000) :
    Calls Tryd.prog 38 #[.slice a l.length c, .int .u8 (x.toNat : Int), .slice am more.length cm] w fun e w' => ∃ v, e = .returned v ∧ w'.ownsRow B0 5 1 v (l.length + more.length) ((mskF x l ++ more).map B) ∧ Below B0 w w' := by
  obtain ⟨i0, hi, hz0, hz1, hz2⟩ := info_parts infoB
  have HRl : Hid (Rd w a l) := hr
  have HRmore : Hid (Rd w am more) := hm
  have HO0 : Hid (w.ownsRow B0 5 1 (.slice none 0 0) (0 + 0) (([] ++ (mskF x l).take 0 : List UInt8).map B)) := by
    show World.ownsRow _ _ _ _ _ _ _
    exact World.ownsRow_nil _ _ _ _
  have HB0 : Hid (Below B0 w w) := Below.refl _ _
  clear hr hm
  go_enter Tryd.func38, Tryd.ntmps38
  go_wp2
  go_loopw [7, 8] (fun s sk ws => ∃ k : Nat, sk = .int .i64 (k : Int) ∧ k ≤ l.length ∧ Hid (ws.ownsRow B0 5 1 s (0 + k) (([] ++ (mskF x l).take k).map B)) ∧ Hid (Below B0 w ws)) (fun _ s _ => l.length - (intOf s).toNat)
  case atStart => exact ⟨0, rfl, by omega, HO0, HB0⟩
  case round =>
    clear HO0 HB0
    obtain ⟨k, rfl, hk, hown, hbel⟩ := hrel
    by_cases hlt : k < l.length
    · have hs2 : B0 ≤ wr.heap.size := by have := hbel.out.size; omega
      have hr2 := HRl.out.below hbel.out hB
      rcases hr2 with hr2 | ⟨b, o, rfl, hb, hc⟩
      · subst hr2; simp at hlt
      have g1 := hc k hlt
      unfold B at g1
      have HT8 : Hid (True → (mskF x l).take (k + 1) = (mskF x l).take k ++ [(l.getD k 0 ^^^ x)]) := fun _ => take_msk x l k hlt
      clear hc
      generalize l.getD k 0 = y at *
      have hx := xorB y x
      generalize y ^^^ x = z at *
      go_wp2_with (at_builtin; refine append_rd rfl (.tmp 16) (.tmp 23) rfl B0 i0 hi hz0 hz1 hz2 _ (0 + k) ([] ++ (mskF x l).take k) rfl (hown.out.alloc _) (some ⟨wr.heap.size, 0, none⟩) 1 1 [z] rfl rfl (fun e => by cases e) (.inr ⟨wr.heap.size, 0, rfl, by simp, fun j hj => by (have : j = 0 := by simpa using hj); subst this; simp [B]⟩) (by omega) (by simp; omega) ?_; intro v5 w5 hown5 hgrow5)
      have HO5 : Hid (w5.ownsRow B0 5 1 v5 (0 + (k + 1)) (([] ++ (mskF x l).take (k + 1)).map B)) := by
        rw [HT8.out trivial, ← List.append_assoc]
        exact hown5
      have HB5 : Hid (Below B0 w w5) := hbel.out.trans ((((alloc_below wr _).mono hs2)).grown hgrow5 (by rw [alloc_size]; omega) (own_block hown.out))
      clear hown5 hgrow5
      go_wp2
      exact ⟨⟨k + 1, by go_num, by omega, HO5, HB5⟩, by simp [intOf]; omega⟩
    · obtain rfl : k = l.length := by omega
      have HO1 : Hid (wr.ownsRow B0 5 1 u7 (l.length + 0) ((mskF x l ++ more.take 0).map B)) := by
        have h1 := hown.out
        rw [List.take_of_length_le (by rw [mskF_length]; omega)] at h1
        show World.ownsRow _ _ _ _ _ _ _
        simpa using h1
      have HB1 := hbel
      clear hown hbel hk hlt
      go_wp2
      go_loopw [7, 9] (fun s sk ws => ∃ k : Nat, sk = .int .i64 (k : Int) ∧ k ≤ more.length ∧ Hid (ws.ownsRow B0 5 1 s (l.length + k) ((mskF x l ++ (more).take k).map B)) ∧ Hid (Below B0 w ws)) (fun _ s _ => more.length - (intOf s).toNat)
      case atStart => exact ⟨0, rfl, by omega, HO1, HB1⟩
      case round =>
        clear HO1 HB1
        obtain ⟨k, rfl, hk, hown, hbel⟩ := hrel
        by_cases hlt : k < more.length
        · have hs2 : B0 ≤ wr.heap.size := by have := hbel.out.size; omega
          have hr2 := HRmore.out.below hbel.out hB
          rcases hr2 with hr2 | ⟨b, o, rfl, hb, hc⟩
          · subst hr2; simp at hlt
          have g1 := hc k hlt
          unfold B at g1
          have HT8 : Hid (True → (more).take (k + 1) = (more).take k ++ [more.getD k 0]) := fun _ => take_getD more k hlt
          clear hc
          generalize more.getD k 0 = y at *
          go_wp2_with (at_builtin; refine append_rd rfl (.tmp 31) (.tmp 36) rfl B0 i0 hi hz0 hz1 hz2 _ (l.length + k) (mskF x l ++ (more).take k) rfl (hown.out.alloc _) (some ⟨wr.heap.size, 0, none⟩) 1 1 [y] rfl rfl (fun e => by cases e) (.inr ⟨wr.heap.size, 0, rfl, by simp, fun j hj => by (have : j = 0 := by simpa using hj); subst this; simp [B]⟩) (by omega) (by simp; omega) ?_; intro v5 w5 hown5 hgrow5)
          have HO5 : Hid (w5.ownsRow B0 5 1 v5 (l.length + (k + 1)) ((mskF x l ++ (more).take (k + 1)).map B)) := by
            rw [HT8.out trivial, ← List.append_assoc]
            exact hown5
          have HB5 : Hid (Below B0 w w5) := hbel.out.trans ((((alloc_below wr _).mono hs2)).grown hgrow5 (by rw [alloc_size]; omega) (own_block hown.out))
          clear hown5 hgrow5
          go_wp2
          exact ⟨⟨k + 1, by go_num, by omega, HO5, HB5⟩, by simp [intOf]; omega⟩
        · obtain rfl : k = more.length := by omega
          go_wp2
          go_ret
          refine ⟨_, rfl, ?_, hbel.out⟩
          have h1 := hown.out
          rw [List.take_of_length_le (by omega)] at h1
          exact h1

end Go.Proofs.YtibgpcheembdkaaDoor
