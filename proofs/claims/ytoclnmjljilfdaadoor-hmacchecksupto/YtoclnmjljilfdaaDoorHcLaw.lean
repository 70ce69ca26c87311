import Derived.Test.YtoclnmjljilfdaaDoorHcF
import Derived.Deep.CutRange
namespace Go.Proofs.YtoclnmjljilfdaaDoor
open Go.RowKit

set_option maxRecDepth 100000 in
set_option maxHeartbeats 2000000 in
theorem follows_zero (h : Int) (gk gd capk capd cw nk nd : Nat) (aw : Option Addr) (k1 d1 : List UInt8) (rk rd : List Value) (w0 w : World) (hs : HSt w0 k1 d1 gk gd rk rd w) (T : Tb w0)
    (hnk : k1.length = nk) (hnd : d1.length = nd) (hck : nk ≤ capk) (hck2 : capk ≤ 9223372036854775807) (hcd : nd ≤ capd) (hcd2 : capd ≤ 9223372036854775807) (hkl : nk ≤ 1048576) (hdl : nd ≤ 1048576) (hS : siz h = 0) :
    Calls Tryd.prog 46 #[.int .i64 h, .slice (some ⟨gk, 0, none⟩) nk capk, .slice (some ⟨gd, 0, none⟩) nd capd, .slice aw 0 cw] w fun e w' => e = .returned (.bool true) ∧ Below w0.heap.size w0 w' := by
  have HT : Hid (Tb w0) := T
  have HC : Hid (∀ (w' : World) (g : Nat), HSt w0 k1 d1 gk gd rk rd w' → Calls Tryd.prog 34 #[.int .i64 h, .slice (some ⟨gk, 0, none⟩) nk capk, .slice (some ⟨gd, 0, none⟩) nd capd, .slice (some ⟨g, 0, none⟩) 0 0] w' fun e w'' => e = .returned (.bool false) ∧ Below w'.heap.size w' w'') := fun w' g hs => by
    have C := check_any h (some ⟨gk, 0, none⟩) (some ⟨gd, 0, none⟩) (some ⟨g, 0, none⟩) capk capd 0 k1 d1 [] w' (HT.out.below hs.bel) hs.kr hs.dr (.inl rfl) (by omega) hck2 (by omega) (by omega) hcd2 (by omega) (by simp)
    rw [hnk, hnd, decide_eq_false (by omega : ¬ (0 < siz h ∧ tagF h k1 d1 = []))] at C
    exact C
  obtain ⟨wm, hmk, hcm, hbm⟩ := made w 0 (by omega)
  have HSm : Hid (HSt w0 k1 d1 gk gd rk rd wm) := hs.below hbm (Nat.le_refl _)
  have hmk2 : (Instr.makeSlice 23 (.int .i64 0) (.int .i64 0)).run Tryd.prog w = .ok (.slice (some ⟨w.heap.size, 0, none⟩) 0 0) wm := hmk
  clear hs T hcm hbm hS hnk hnd hmk
  go_enter Tryd.func46, Tryd.ntmps46
  go_wp2_with fail
  refine (HC.out wm w.heap.size HSm.out).mono ?_
  rintro e w1 ⟨rfl, hb1⟩
  have HS1 : Hid (HSt w0 k1 d1 gk gd rk rd w1) := HSm.out.below hb1 (Nat.le_refl _)
  clear hb1 hmk2 HSm
  go_wp2
  go_loopw [11] (fun s ws => s = .int .i64 0 ∧ w1 = ws) (fun _ _ => 0)
  case atStart => exact ⟨rfl, rfl⟩
  case round =>
    obtain ⟨rfl, rfl⟩ := hrel
    go_wp2_with fail
    refine (HC.out w1 w.heap.size HS1.out).mono ?_
    rintro e w2 ⟨rfl, hb2⟩
    have HB2 : Hid (Below w0.heap.size w0 w2) := (HS1.out.below hb2 (Nat.le_refl _)).bel
    clear hb2 HS1
    go_wp2
    go_ret
    exact ⟨rfl, HB2.out⟩

theorem follows_any (h : Int) (gk gd capk capd cw nk nd : Nat) (aw : Option Addr) (k1 d1 : List UInt8) (rk rd : List Value) (w0 w : World) (hs : HSt w0 k1 d1 gk gd rk rd w) (T : Tb w0) (R : Rt w0) (hgd : w0.heap.size ≤ gd) (hne : gk < gd)
    (hnk : k1.length = nk) (hnd : d1.length = nd) (hck : nk ≤ capk) (hck2 : capk ≤ 9223372036854775807) (hcd : nd ≤ capd) (hcd2 : capd ≤ 9223372036854775807) (hkl : nk ≤ 1048576) (hdl : nd ≤ 1048576) (hw : Rd w aw (tagF h k1 d1)) :
    Calls Tryd.prog 46 #[.int .i64 h, .slice (some ⟨gk, 0, none⟩) nk capk, .slice (some ⟨gd, 0, none⟩) nd capd, .slice aw (siz h) cw] w fun e w' => e = .returned (.bool true) ∧ Below w0.heap.size w0 w' := by
  by_cases hS : siz h = 0
  · rw [hS]
    exact follows_zero h gk gd capk capd cw nk nd aw k1 d1 rk rd w0 w hs T hnk hnd hck hck2 hcd hcd2 hkl hdl hS
  · exact follows_pos h gk gd capk capd cw nk nd (siz h) aw k1 d1 rk rd w0 w hs T R hgd hne hnk hnd hck hck2 hcd hcd2 hkl hdl hw rfl (by omega)

/-- Key, text and tag, copied, with the marks behind them. -/
structure H3 (w0 : World) (key data tag : List UInt8) (gk gd gt : Nat) (rk rd rt : List Value) (w : World) : Prop where
  s : HSt w0 key data gk gd rk rd w
  t : Cl w gt ((tag ++ mrk).map B ++ rt)
section
variable {w0 w w' : World} {key data tag : List UInt8} {gk gd gt : Nat} {rk rd rt : List Value}
theorem H3.below {n : Nat} (h : H3 w0 key data tag gk gd gt rk rd rt w) (hb : Below n w w') (hn : w.heap.size ≤ n) : H3 w0 key data tag gk gd gt rk rd rt w' := ⟨h.s.below hb hn, h.t.below hb (by have := h.t.lt; omega)⟩
theorem H3.drewN (h : H3 w0 key data tag gk gd gt rk rd rt w) (q : Nat) : H3 w0 key data tag gk gd gt rk rd rt (w.drewN q) := ⟨h.s.drewN q, h.t⟩
theorem H3.drew (h : H3 w0 key data tag gk gd gt rk rd rt w) : H3 w0 key data tag gk gd gt rk rd rt w.drew := ⟨h.s.drew, h.t⟩
theorem H3.tr (h : H3 w0 key data tag gk gd gt rk rd rt w) : Rd w (some ⟨gt, 0, none⟩) tag := clr_rd (r := mrk.map B ++ rt) (by rw [← List.append_assoc, ← List.map_append]; exact h.t)
end

set_option maxRecDepth 100000 in
set_option maxHeartbeats 16000000 in
theorem hchecks_core (h : Int) (ak ad at' : Option Addr) (ck cd ct : Nat) (key data tag : List UInt8) (w : World) (T : Tb w) (R : Rt w) (hk : Rd w ak key) (hd : Rd w ad data) (ht : Rd w at' tag) (hak : ak = none → key.length = 0 ∧ ck = 0) (hkl : key.length ≤ 1048576) (hdl : data.length ≤ 1048576) (htl : tag.length ≤ 1048576) :
    Calls Tryd.prog 12 #[.int .i64 h, .slice ak key.length ck, .slice ad data.length cd, .slice at' tag.length ct] w fun e w' => e = .returned (.bool true) ∧ Below w.heap.size w w' := by
  have HT : Hid (Tb w) := T
  have HRt : Hid (Rt w) := R
  have HK : Hid (Rd w ak key) := hk
  have HD : Hid (Rd w ad data) := hd
  have HTg : Hid (Rd w at' tag) := ht
  have HAK : Hid (ak = none → key.length = 0 ∧ ck = 0) := hak
  have hsl := siz_le h
  have C1 := marked5_any ak ck w.heap.size key w (Nat.le_refl _) (Nat.le_refl _) hk (by omega)
  clear T R hk hd ht hak
  go_enter Tryd.func12, Tryd.ntmps12
  go_wp2_with fail
  refine C1.mono ?_
  rintro e w1 ⟨v1, rfl, ho1, hb1⟩
  obtain ⟨gk, capk, rk, rfl, hgk, hck, hck2, hK1⟩ := own_clr ho1 (by omega)
  have HK1 : Hid (Cl w1 gk ((key ++ mrk).map B ++ rk)) := hK1
  have HB1 : Hid (Below w.heap.size w w1) := hb1
  have hgk1 : gk < w1.heap.size := hK1.lt
  have C2 := marked5_any ad cd w1.heap.size data w1 (Nat.le_refl _) (Nat.le_refl _) (HD.out.below hb1 (Nat.le_refl _)) (by omega)
  clear C1 ho1 hb1 hK1
  go_wp2_with fail
  refine C2.mono ?_
  rintro e w2 ⟨v2, rfl, ho2, hb2⟩
  obtain ⟨gd, capd, rd, rfl, hgd, hcd, hcd2, hD2⟩ := own_clr ho2 (by omega)
  have hgkd : gk < gd := by omega
  have hgd0 : w.heap.size ≤ gd := by omega
  have hgd2 : gd < w2.heap.size := hD2.lt
  have HS2 : Hid (HSt w key data gk gd rk rd w2) := ⟨HK1.out.below hb2 (by omega), hD2, HB1.out.trans (hb2.mono HB1.out.size)⟩
  have C3 := marked5_any at' ct w2.heap.size tag w2 (Nat.le_refl _) (Nat.le_refl _) (HTg.out.below HS2.out.bel (Nat.le_refl _)) (by omega)
  clear C2 ho2 hb2 hD2 HK1 HB1
  go_wp2_with fail
  refine C3.mono ?_
  rintro e w3 ⟨v3, rfl, ho3, hb3⟩
  obtain ⟨gt, capt, rt, rfl, hgt, hct, hct2, hT3⟩ := own_clr ho3 (by omega)
  have hgdt : gd < gt := by omega
  have hgt0 : w.heap.size ≤ gt := by omega
  have hgt3 : gt < w3.heap.size := hT3.lt
  have HS3 : Hid (H3 w key data tag gk gd gt rk rd rt w3) := ⟨HS2.out.below hb3 (Nat.le_refl _), hT3⟩
  clear C3 ho3 hb3 hT3 HS2
  have hsk : ∀ W, (Instr.sliceAt 23 (.slice (some ⟨gk, 0, none⟩) (key.length + 200) capk) none (some (.int .i64 (key.length : Int))) none).run Tryd.prog W = .ok (.slice (some ⟨gk, 0, none⟩) key.length capk) W := fun W => slice_high _ _ _ _ W (by omega)
  have hsd : ∀ W, (Instr.sliceAt 23 (.slice (some ⟨gd, 0, none⟩) (data.length + 200) capd) none (some (.int .i64 (data.length : Int))) none).run Tryd.prog W = .ok (.slice (some ⟨gd, 0, none⟩) data.length capd) W := fun W => slice_high _ _ _ _ W (by omega)
  have hst : ∀ W, (Instr.sliceAt 23 (.slice (some ⟨gt, 0, none⟩) (tag.length + 200) capt) none (some (.int .i64 (tag.length : Int))) none).run Tryd.prog W = .ok (.slice (some ⟨gt, 0, none⟩) tag.length capt) W := fun W => slice_high _ _ _ _ W (by omega)
  have hcapk : capk ≤ 9223372036854775807 := by unfold maxLen at hck2; omega
  have hcapd : capd ≤ 9223372036854775807 := by unfold maxLen at hcd2; omega
  -- the calls, at whatever key, text and tag of these lengths
  have HCh : Hid (∀ (k1 d1 t1 : List UInt8) (w' : World), H3 w k1 d1 t1 gk gd gt rk rd rt w' → k1.length = key.length → d1.length = data.length → t1.length = tag.length → Calls Tryd.prog 34 #[.int .i64 h, .slice (some ⟨gk, 0, none⟩) key.length capk, .slice (some ⟨gd, 0, none⟩) data.length capd, .slice (some ⟨gt, 0, none⟩) tag.length capt] w' fun e w'' => e = .returned (.bool (decide (0 < siz h ∧ tagF h k1 d1 = t1))) ∧ Below w'.heap.size w' w'') := fun k1 d1 t1 w' hs h1 h2 h3 => by
    have C := check_any h (some ⟨gk, 0, none⟩) (some ⟨gd, 0, none⟩) (some ⟨gt, 0, none⟩) capk capd capt k1 d1 t1 w' (HT.out.below hs.s.bel) hs.s.kr hs.s.dr hs.tr (by omega) hcapk (by omega) (by omega) hcapd (by omega) (by omega)
    rw [h1, h2, h3] at C
    exact C
  have HEq : Hid (∀ (k1 d1 t1 : List UInt8) (w' : World), H3 w k1 d1 t1 gk gd gt rk rd rt w' → d1.length = data.length → t1.length = tag.length → Calls Tryd.prog 35 #[.slice (some ⟨gd, 0, none⟩) data.length capd, .slice (some ⟨gt, 0, none⟩) tag.length capt] w' fun e w'' => e = .returned (.bool (decide (d1 = t1))) ∧ w'' = w') := fun k1 d1 t1 w' hs h2 h3 => by
    have C := equal_any (some ⟨gd, 0, none⟩) (some ⟨gt, 0, none⟩) capd capt d1 t1 w' hs.s.dr hs.tr (by omega) (by omega)
    rw [h2, h3] at C
    exact C
  obtain ⟨cb, hcb⟩ : ∃ b, decide (0 < siz h ∧ tagF h key data = tag) = b := ⟨_, rfl⟩
  obtain ⟨eb, heb⟩ : ∃ b, decide (data = tag) = b := ⟨_, rfl⟩
  have Hcb : Hid (True → decide (0 < siz h ∧ tagF h key data = tag) = cb) := fun _ => hcb
  have Heb : Hid (True → decide (data = tag) = eb) := fun _ => heb
  clear hcb heb
  go_wp2
  refine wp_region_tail 13 (by kernel_rfl) (by kernel_rfl) ?_
  simp only [List.take_succ_cons, List.take_zero, List.drop_succ_cons, List.drop_zero]
  repeat (first | go_big_quiet_skip | (go_big_quiet_want; go_big_quiet_op; go_big_quiet_on))
  refine wpQuiet_nil ?_
  have HS4 : Hid (H3 w key data tag gk gd gt rk rd rt (w3.drewN 1)) := HS3.out.drewN 1
  clear HS3
  generalize w3.drewN 1 = w4 at *
  have C4 := HCh.out key data tag w4 HS4.out rfl rfl rfl
  rw [Hcb.out trivial] at C4
  go_wp2_with fail
  refine C4.mono ?_
  rintro e w5 ⟨rfl, hb5⟩
  have HS5 : Hid (H3 w key data tag gk gd gt rk rd rt w5) := HS4.out.below hb5 (Nat.le_refl _)
  clear C4 hb5 HS4
  go_wp2
  refine wp_region_tail 8 (by kernel_rfl) (by kernel_rfl) ?_
  simp only [List.take_succ_cons, List.take_zero, List.drop_succ_cons, List.drop_zero]
  repeat (first | go_big_quiet_skip | (go_big_quiet_want; go_big_quiet_op; go_big_quiet_on))
  refine wpQuiet_nil ?_
  have HS6 : Hid (H3 w key data tag gk gd gt rk rd rt (w5.drewN 1)) := HS5.out.drewN 1
  clear HS5
  generalize w5.drewN 1 = w6 at *
  have C5 := HEq.out key data tag w6 HS6.out rfl rfl
  rw [Heb.out trivial] at C5
  go_wp2_with fail
  refine C5.mono ?_
  rintro e w7 ⟨rfl, hw7⟩
  subst w7
  clear C5
  have C6 := rcheck' h ak ad at' ck cd ct key data tag w6 (HRt.out.below HS6.out.s.bel (Nat.le_refl _)) (HK.out.below HS6.out.s.bel (Nat.le_refl _)) (HD.out.below HS6.out.s.bel (Nat.le_refl _)) (HTg.out.below HS6.out.s.bel (Nat.le_refl _)) HAK.out (by omega) (by omega)
  rw [Hcb.out trivial] at C6
  have hcc : (cb != cb) = false := by simp
  have hee : (eb != eb) = false := by simp
  go_wp2_with fail
  refine C6.mono ?_
  rintro e w7 ⟨rfl, hb7⟩
  have HS7 : Hid (H3 w key data tag gk gd gt rk rd rt w7) := HS6.out.below hb7 (Nat.le_refl _)
  clear C6 hb7 HS6
  have C7 := requal_any ad at' cd ct data tag w7 (HD.out.below HS7.out.s.bel (Nat.le_refl _)) (HTg.out.below HS7.out.s.bel (Nat.le_refl _)) (by omega)
  rw [Heb.out trivial] at C7
  go_wp2_with fail
  refine C7.mono ?_
  rintro e w8 ⟨rfl, q, hq⟩
  have HS8 : Hid (H3 w key data tag gk gd gt rk rd rt w8) := by rw [hq]; exact HS7.out.drewN q
  clear C7 hq HS7
  go_wp2_with fail
  refine (whole5_any gk capk ck ak key rk w8 HS8.out.s.K (HK.out.below HS8.out.s.bel (Nat.le_refl _)) (by omega) (by omega)).mono ?_
  rintro e w9 ⟨rfl, q, hq⟩
  have HS9 : Hid (H3 w key data tag gk gd gt rk rd rt w9) := by rw [hq]; exact HS8.out.drewN q
  clear hq HS8
  go_wp2_with fail
  refine (whole5_any gd capd cd ad data rd w9 HS9.out.s.D (HD.out.below HS9.out.s.bel (Nat.le_refl _)) (by omega) (by omega)).mono ?_
  rintro e wA ⟨rfl, q, hq⟩
  have HSA : Hid (H3 w key data tag gk gd gt rk rd rt wA) := by rw [hq]; exact HS9.out.drewN q
  clear hq HS9
  go_wp2_with fail
  refine (whole5_any gt capt ct at' tag rt wA HSA.out.t (HTg.out.below HSA.out.s.bel (Nat.le_refl _)) (by omega) (by omega)).mono ?_
  rintro e wB ⟨rfl, q, hq⟩
  have HSB : Hid (H3 w key data tag gk gd gt rk rd rt wB) := by rw [hq]; exact HSA.out.drewN q
  clear hq HSA Hcb Heb hcc hee
  have C8 := turned5_any gk capk key (mrk.map B ++ rk) wB (by rw [← List.append_assoc, ← List.map_append]; exact HSB.out.s.K) (by omega)
  go_wp2_with fail
  refine C8.mono ?_
  rintro e wE ⟨rfl, ⟨k1, hk1, hK1⟩, hbE⟩
  have HKE : Hid (Cl wE gk (k1.map B ++ (mrk.map B ++ rk))) := hK1
  have HDE : Hid (Cl wE gd (data.map B ++ (mrk.map B ++ rd))) := by
    rw [← List.append_assoc, ← List.map_append]
    exact hbE.other HSB.out.s.D (by omega)
  have HTE : Hid (Cl wE gt ((tag ++ mrk).map B ++ rt)) := hbE.other HSB.out.t (by omega)
  have HBE : Hid (Below w.heap.size w wE) := HSB.out.s.bel.trans (hbE.below HSB.out.s.bel.size hgk)
  clear C8 hK1 hbE HSB
  have C9 := turned5_any gd capd data (mrk.map B ++ rd) wE HDE.out (by omega)
  go_wp2_with fail
  refine C9.mono ?_
  rintro e wF ⟨rfl, ⟨d1, hd1, hD1⟩, hbF⟩
  have HSF : Hid (H3 w k1 d1 tag gk gd gt rk rd rt wF) := ⟨⟨by rw [List.map_append, List.append_assoc]; exact hbF.other HKE.out (by omega), by rw [List.map_append, List.append_assoc]; exact hD1, HBE.out.trans (hbF.below HBE.out.size hgd0)⟩, hbF.other HTE.out (by omega)⟩
  have Hk1 : Hid (True → k1.length = key.length) := fun _ => hk1
  have Hd1 : Hid (True → d1.length = data.length) := fun _ => hd1
  clear C9 hD1 hbF HKE HDE HBE HTE hk1 hd1
  have HCk : Hid (∀ (t1 : List UInt8) w', H3 w k1 d1 t1 gk gd gt rk rd rt w' → Calls Tryd.prog 43 #[.slice (some ⟨gk, 0, none⟩) key.length capk] w' fun e w'' => ∃ a c, e = .returned (.slice a key.length c) ∧ (a = none → k1.length = 0 ∧ c = 0) ∧ Rd w'' a k1 ∧ H3 w k1 d1 t1 gk gd gt rk rd rt w'' ∧ Below w'.heap.size w' w'') := fun t1 w' hs => by
    refine (copied' gk capk key.length k1 w' hs.s.kr (Hk1.out trivial) (by omega)).mono ?_
    rintro e w'' ⟨a, c, rfl, hn, hr, hb⟩
    exact ⟨a, c, rfl, hn, hr, hs.below hb (Nat.le_refl _), hb⟩
  have HCd : Hid (∀ (t1 : List UInt8) w', H3 w k1 d1 t1 gk gd gt rk rd rt w' → Calls Tryd.prog 43 #[.slice (some ⟨gd, 0, none⟩) data.length capd] w' fun e w'' => ∃ a c, e = .returned (.slice a data.length c) ∧ Rd w'' a d1 ∧ H3 w k1 d1 t1 gk gd gt rk rd rt w'' ∧ Below w'.heap.size w' w'') := fun t1 w' hs => by
    refine (copied' gd capd data.length d1 w' hs.s.dr (Hd1.out trivial) (by omega)).mono ?_
    rintro e w'' ⟨a, c, rfl, hn, hr, hb⟩
    exact ⟨a, c, rfl, hr, hs.below hb (Nat.le_refl _), hb⟩
  have HCs : Hid (∀ w' a1 c1 a2 c2, H3 w k1 d1 tag gk gd gt rk rd rt w' → Rd w' a1 k1 → (a1 = none → k1.length = 0 ∧ c1 = 0) → Rd w' a2 d1 → Calls Tryd.prog 40 #[.int .i64 h, .slice a1 key.length c1, .slice a2 data.length c2] w' fun e w'' => ∃ a c, e = .returned (.slice a (siz h) c) ∧ Rd w'' a (tagF h k1 d1) ∧ H3 w k1 d1 tag gk gd gt rk rd rt w'' ∧ Off a (tagF h k1 d1) gt) := fun w' a1 c1 a2 c2 hs hr1 hn1 hr2 => by
    have C := rhsum_any h a1 a2 c1 c2 k1 d1 w' (HRt.out.below hs.s.bel (Nat.le_refl _)) hr1 hr2 hn1 (by rw [Hk1.out trivial]; omega) (by rw [Hd1.out trivial]; omega)
    rw [Hk1.out trivial, Hd1.out trivial] at C
    refine C.mono ?_
    rintro e w'' ⟨a, c, rfl, _, _, _, hr, hbl, hb⟩
    exact ⟨a, c, rfl, hr, hs.below hb (Nat.le_refl _), fun x _ e => by have := hbl x e; have := hs.t.lt; omega⟩
  have HTl1 : Hid (True → (tagF h k1 d1).length = siz h) := fun _ => tagF_length h k1 d1
  generalize hTT : tagF h k1 d1 = T1 at *
  have HTT : Hid (True → tagF h k1 d1 = T1) := fun _ => hTT
  clear hTT
  go_upto_region 10 with fail
  go_cut [14] from 89 to 100 (fun s wx => ∃ a c, s = .slice a (siz h) c ∧ Hid (Rd wx a T1) ∧ Hid (H3 w k1 d1 tag gk gd gt rk rd rt wx) ∧ Hid (Off a T1 gt))
  case first =>
    have hSF := HSF.out
    clear HSF
    go_region_with (first
      | (go_at_call_of 43 (Value.slice (some ⟨gk, 0, none⟩) key.length capk); refine (HCk.out tag _ (by repeat (first | with_reducible assumption | with_reducible apply H3.drew))).mono ?_; rintro e wx ⟨ax, cx, rfl, hnx, hrx, hsx, hbx⟩)
      | (go_at_call_of 43 (Value.slice (some ⟨gd, 0, none⟩) data.length capd); refine (HCd.out tag _ (by repeat (first | with_reducible assumption | with_reducible apply H3.drew))).mono ?_; rintro e wy ⟨ay, cy, rfl, hry, hsy, hby⟩)
      | (go_at_call 40; refine (HCs.out _ _ _ _ _ (by repeat (first | with_reducible assumption | with_reducible apply H3.drew)) (by first | with_reducible assumption | (refine Rd.below ?_ (by with_reducible assumption) (Nat.le_refl _); first | with_reducible assumption | (refine Rd.below ?_ (by with_reducible assumption) (Nat.le_refl _); with_reducible assumption))) (by with_reducible assumption) (by first | with_reducible assumption | (refine Rd.below ?_ (by with_reducible assumption) (Nat.le_refl _); first | with_reducible assumption | (refine Rd.below ?_ (by with_reducible assumption) (Nat.le_refl _); with_reducible assumption)))).mono ?_; rintro e wz ⟨az, cz, rfl, hrz, hsz, hoz⟩))
    all_goals go_wp2_with fail
    all_goals go_meet
    all_goals exact ⟨_, _, rfl, hrz, hsz, hoz⟩
  case rest =>
  obtain ⟨aN, cN, rfl, HRN, HSN, HON⟩ := hcut
  clear HSF HCs
  have HT0 : Hid (∃ t1 : List UInt8, t1.length = tag.length ∧ Cl wc gt (t1.map B ++ (mrk.map B ++ rt))) := ⟨tag, rfl, by rw [← List.append_assoc, ← List.map_append]; exact HSN.out.t⟩
  have HBn : Hid (∀ (wx : World) (t1 : List UInt8), But wc wx gt → Cl wx gt (t1.map B ++ (mrk.map B ++ rt)) → H3 w k1 d1 t1 gk gd gt rk rd rt wx) := fun wx t1 hb hc => ⟨HSN.out.s.but hb hgt0 (by omega) (by omega), by rw [List.map_append, List.append_assoc]; exact hc⟩
  go_wp2
  go_loopw [15] (fun s ws => ∃ i : Nat, s = .int .i64 (i : Int) ∧ i ≤ tag.length ∧ Hid (∃ t1 : List UInt8, t1.length = tag.length ∧ Cl ws gt (t1.map B ++ (mrk.map B ++ rt))) ∧ Hid (But wc ws gt)) (fun s _ => tag.length - (intOf s).toNat)
  case atStart => exact ⟨0, rfl, by omega, HT0, But.refl _ _⟩
  case round =>
  clear HT0
  obtain ⟨i, rfl, hi, hcl, hbut⟩ := hrel
  have HRi : Hid (Rd wr aN T1) := HRN.out.but hbut.out HON.out
  obtain ⟨bb, hbb⟩ : ∃ b, (decide (i < tag.length) && decide (i < siz h)) = b := ⟨_, rfl⟩
  have Hbb : Hid (True → (decide (i < tag.length) && decide (i < siz h)) = bb) := fun _ => hbb
  clear hbb
  go_upto_region 12 with fail
  go_cut [110] from 101 to 119 (fun s wx => s = .bool bb ∧ wr = wx)
  case first =>
    by_cases h1 : i < tag.length
    · have h1I : decide ((i : Int) < (tag.length : Int)) = true := decide_eq_true (by omega)
      by_cases h2 : i < siz h
      · have h2I : decide ((i : Int) < (siz h : Int)) = true := decide_eq_true (by omega)
        have Hv : Hid (True → true = bb) := fun _ => by rw [← Hbb.out trivial]; simp [h1, h2]
        go_wp2_with fail
        go_meet
        refine ⟨?_, rfl⟩
        rw [← Hv.out trivial]
      · have h2I : decide ((i : Int) < (siz h : Int)) = false := decide_eq_false (by omega)
        have Hv : Hid (True → false = bb) := fun _ => by rw [← Hbb.out trivial]; simp [h2]
        go_wp2_with fail
        go_meet
        refine ⟨?_, rfl⟩
        rw [← Hv.out trivial]
    · have h1I : decide ((i : Int) < (tag.length : Int)) = false := decide_eq_false (by omega)
      have Hv : Hid (True → false = bb) := fun _ => by rw [← Hbb.out trivial]; simp [h1]
      go_wp2_with fail
      go_meet
      refine ⟨?_, rfl⟩
      rw [← Hv.out trivial]
  case rest =>
  obtain ⟨rfl, rfl⟩ := hcut
  cases bb
  case true =>
    have h12 : i < tag.length ∧ i < siz h := by have h := Hbb.out trivial; rw [Bool.and_eq_true, decide_eq_true_eq, decide_eq_true_eq] at h; exact h
    have h1 := h12.1
    have h2 := h12.2
    obtain ⟨t1, ht1, hc1⟩ := hcl.out
    have gf := hc1.frozen i
    obtain ⟨old, gc⟩ : ∃ v, wr.cell? ⟨gt, i, none⟩ = some v := ⟨_, clr_cell hc1 i (by omega)⟩
    have hr2 := HRi.out
    have hlT : i < T1.length := by rw [HTl1.out trivial]; exact h2
    rcases hr2 with hr2 | ⟨b, o, rfl, hb, hc⟩
    · subst hr2; simp at hlT
    have g1 := hc i hlT
    have Hs : Hid (∀ x : UInt8, ∃ t2 : List UInt8, t2.length = tag.length ∧ Cl (wr.setCell ⟨gt, i, none⟩ (B x)) gt (t2.map B ++ (mrk.map B ++ rt))) := fun x => ⟨t1.set i x, by rw [List.length_set]; exact ht1, clr_set hc1 i (by omega) x⟩
    unfold B at g1
    clear hc hc1 ht1 hlT hcl HRi h12
    generalize T1.getD i 0 = x at *
    go_wp2
    go_roundw
    case rel =>
      exact ⟨i + 1, by go_num, by omega, Hs.out x, hbut.out.set _ _⟩
    case measure => first | (simp [intOf]; done) | (simp [intOf]; omega)
  case false =>
  obtain ⟨t1, ht1, hct1⟩ := hcl.out
  have Ht1 : Hid (True → t1.length = tag.length) := fun _ => ht1
  have HSP : Hid (H3 w k1 d1 t1 gk gd gt rk rd rt wr) := HBn.out wr t1 hbut.out hct1
  have HRP : Hid (Rd wr aN T1) := HRi
  clear hcl hbut HRi ht1 hct1 Hbb
  clear HBn HSN HRN HON
  have HCt : Hid (∀ w', H3 w k1 d1 t1 gk gd gt rk rd rt w' → Calls Tryd.prog 43 #[.slice (some ⟨gt, 0, none⟩) tag.length capt] w' fun e w'' => ∃ a c, e = .returned (.slice a tag.length c) ∧ Rd w'' a t1 ∧ H3 w k1 d1 t1 gk gd gt rk rd rt w'' ∧ Below w'.heap.size w' w'') := fun w' hs => by
    refine (copied' gt capt tag.length t1 w' hs.tr (Ht1.out trivial) (by omega)).mono ?_
    rintro e w'' ⟨a, c, rfl, hn, hr, hb⟩
    exact ⟨a, c, rfl, hr, hs.below hb (Nat.le_refl _), hb⟩
  obtain ⟨cb1, hcb1⟩ : ∃ b, decide (0 < siz h ∧ tagF h k1 d1 = t1) = b := ⟨_, rfl⟩
  obtain ⟨eb1, heb1⟩ : ∃ b, decide (d1 = t1) = b := ⟨_, rfl⟩
  have HCc : Hid (∀ w' a1 c1 a2 c2 a3 c3, H3 w k1 d1 t1 gk gd gt rk rd rt w' → Rd w' a1 k1 → (a1 = none → k1.length = 0 ∧ c1 = 0) → Rd w' a2 d1 → Rd w' a3 t1 → Calls Tryd.prog 44 #[.int .i64 h, .slice a1 key.length c1, .slice a2 data.length c2, .slice a3 tag.length c3] w' fun e w'' => e = .returned (.bool cb1) ∧ H3 w k1 d1 t1 gk gd gt rk rd rt w'' ∧ Below w'.heap.size w' w'') := fun w' a1 c1 a2 c2 a3 c3 hs hr1 hn1 hr2 hr3 => by
    have C := rcheck' h a1 a2 a3 c1 c2 c3 k1 d1 t1 w' (HRt.out.below hs.s.bel (Nat.le_refl _)) hr1 hr2 hr3 hn1 (by rw [Hk1.out trivial]; omega) (by rw [Hd1.out trivial]; omega)
    rw [Hk1.out trivial, Hd1.out trivial, Ht1.out trivial, hcb1] at C
    refine C.mono ?_
    rintro e w'' ⟨rfl, hb⟩
    exact ⟨rfl, hs.below hb (Nat.le_refl _), hb⟩
  have HCe : Hid (∀ w' a2 c2 a3 c3, H3 w k1 d1 t1 gk gd gt rk rd rt w' → Rd w' a2 d1 → Rd w' a3 t1 → Calls Tryd.prog 45 #[.slice a2 data.length c2, .slice a3 tag.length c3] w' fun e w'' => e = .returned (.bool eb1) ∧ H3 w k1 d1 t1 gk gd gt rk rd rt w'' ∧ Below w'.heap.size w' w'') := fun w' a2 c2 a3 c3 hs hr2 hr3 => by
    have C := requal_any a2 a3 c2 c3 d1 t1 w' hr2 hr3 (by rw [Hd1.out trivial]; omega)
    rw [Hd1.out trivial, Ht1.out trivial, heb1] at C
    refine C.mono ?_
    rintro e w'' ⟨rfl, q, rfl⟩
    exact ⟨rfl, hs.drewN q, below_drewN (Below.refl _ _) q⟩
  have Hcb1 : Hid (True → decide (0 < siz h ∧ tagF h k1 d1 = t1) = cb1) := fun _ => hcb1
  have Heb1 : Hid (True → decide (d1 = t1) = eb1) := fun _ => heb1
  have hw15 : ∀ (wx : World), Hid (Below wr.heap.size wr wx) → Hid (Rd wx aN T1) := fun wx hb => HRP.out.below hb.out (Nat.le_refl _)
  clear hcb1 heb1
  go_upto_region 15 with fail
  go_cut [16] from 120 to 136 (fun s wx => s = .bool cb1 ∧ Hid (H3 w k1 d1 t1 gk gd gt rk rd rt wx) ∧ Hid (Rd wx aN T1))
  case first =>
    have hSF := HSP.out
    have hRN := HRP.out
    clear HSP HRP hw15
    go_region_with (first
      | (go_at_call_of 43 (Value.slice (some ⟨gk, 0, none⟩) key.length capk); refine (HCk.out t1 _ (by repeat (first | with_reducible assumption | with_reducible apply H3.drew))).mono ?_; rintro e wx ⟨ax, cx, rfl, hnx, hrx, hsx, hbx⟩)
      | (go_at_call_of 43 (Value.slice (some ⟨gd, 0, none⟩) data.length capd); refine (HCd.out t1 _ (by repeat (first | with_reducible assumption | with_reducible apply H3.drew))).mono ?_; rintro e wy ⟨ay, cy, rfl, hry, hsy, hby⟩)
      | (go_at_call_of 43 (Value.slice (some ⟨gt, 0, none⟩) tag.length capt); refine (HCt.out _ (by repeat (first | with_reducible assumption | with_reducible apply H3.drew))).mono ?_; rintro e wt ⟨at2, ct2, rfl, hrt, hst2, hbt⟩)
      | (go_at_call 44; refine (HCc.out _ _ _ _ _ _ _ (by repeat (first | with_reducible assumption | with_reducible apply H3.drew)) (by first | with_reducible assumption | (refine Rd.below ?_ (by with_reducible assumption) (Nat.le_refl _); first | with_reducible assumption | (refine Rd.below ?_ (by with_reducible assumption) (Nat.le_refl _); with_reducible assumption))) (by with_reducible assumption) (by first | with_reducible assumption | (refine Rd.below ?_ (by with_reducible assumption) (Nat.le_refl _); first | with_reducible assumption | (refine Rd.below ?_ (by with_reducible assumption) (Nat.le_refl _); with_reducible assumption))) (by first | with_reducible assumption | (refine Rd.below ?_ (by with_reducible assumption) (Nat.le_refl _); first | with_reducible assumption | (refine Rd.below ?_ (by with_reducible assumption) (Nat.le_refl _); with_reducible assumption)))).mono ?_; rintro e wz ⟨rfl, hsz, hbz⟩))
    all_goals go_wp2_with fail
    all_goals go_meet
    all_goals refine ⟨rfl, hsz, ?_⟩
    all_goals (show Rd _ _ _)
    all_goals (repeat (first | with_reducible assumption | with_reducible apply Rd.drew | refine Rd.below ?_ (by with_reducible assumption) (Nat.le_refl _)))
  case rest =>
  obtain ⟨rfl, HSQ, HRQ⟩ := hcut
  clear HSP HRP hw15 HCk HCc
  go_upto_region 16 with fail
  go_cut [17] from 137 to 147 (fun s wx => s = .bool eb1 ∧ Hid (H3 w k1 d1 t1 gk gd gt rk rd rt wx) ∧ Hid (Rd wx aN T1))
  case first =>
    have hSF := HSQ.out
    have hRN := HRQ.out
    clear HSQ HRQ
    go_region_with (first
      | (go_at_call_of 43 (Value.slice (some ⟨gd, 0, none⟩) data.length capd); refine (HCd.out t1 _ (by repeat (first | with_reducible assumption | with_reducible apply H3.drew))).mono ?_; rintro e wy ⟨ay, cy, rfl, hry, hsy, hby⟩)
      | (go_at_call_of 43 (Value.slice (some ⟨gt, 0, none⟩) tag.length capt); refine (HCt.out _ (by repeat (first | with_reducible assumption | with_reducible apply H3.drew))).mono ?_; rintro e wt ⟨at2, ct2, rfl, hrt, hst2, hbt⟩)
      | (go_at_call 45; refine (HCe.out _ _ _ _ _ (by repeat (first | with_reducible assumption | with_reducible apply H3.drew)) (by first | with_reducible assumption | (refine Rd.below ?_ (by with_reducible assumption) (Nat.le_refl _); first | with_reducible assumption | (refine Rd.below ?_ (by with_reducible assumption) (Nat.le_refl _); with_reducible assumption))) (by first | with_reducible assumption | (refine Rd.below ?_ (by with_reducible assumption) (Nat.le_refl _); first | with_reducible assumption | (refine Rd.below ?_ (by with_reducible assumption) (Nat.le_refl _); with_reducible assumption)))).mono ?_; rintro e wz ⟨rfl, hsz, hbz⟩))
    all_goals go_wp2_with fail
    all_goals go_meet
    all_goals refine ⟨rfl, hsz, ?_⟩
    all_goals (show Rd _ _ _)
    all_goals (repeat (first | with_reducible assumption | with_reducible apply Rd.drew | refine Rd.below ?_ (by with_reducible assumption) (Nat.le_refl _)))
  case rest =>
  obtain ⟨rfl, HSR, HRR⟩ := hcut
  clear HSQ HRQ HCd HCt HCe
  go_wp2
  refine wp_region_tail 13 (by kernel_rfl) (by kernel_rfl) ?_
  simp only [List.take_succ_cons, List.take_zero, List.drop_succ_cons, List.drop_zero]
  repeat (first | go_big_quiet_skip | (go_big_quiet_want; go_big_quiet_op; go_big_quiet_on))
  refine wpQuiet_nil ?_
  have HS17 : Hid (H3 w k1 d1 t1 gk gd gt rk rd rt (wc.drewN 1)) := HSR.out.drewN 1
  have HR17 : Hid (Rd (wc.drewN 1) aN T1) := HRR.out
  clear HSR HRR
  generalize wc.drewN 1 = wG at *
  have C17 := HCh.out k1 d1 t1 wG HS17.out (Hk1.out trivial) (Hd1.out trivial) (Ht1.out trivial)
  rw [Hcb1.out trivial] at C17
  go_wp2_with fail
  refine C17.mono ?_
  rintro e wH ⟨rfl, hbH⟩
  have HS18 : Hid (H3 w k1 d1 t1 gk gd gt rk rd rt wH) := HS17.out.below hbH (Nat.le_refl _)
  have HR18 : Hid (Rd wH aN T1) := HR17.out.below hbH (Nat.le_refl _)
  clear C17 hbH HS17 HR17
  go_wp2
  refine wp_region_tail 8 (by kernel_rfl) (by kernel_rfl) ?_
  simp only [List.take_succ_cons, List.take_zero, List.drop_succ_cons, List.drop_zero]
  repeat (first | go_big_quiet_skip | (go_big_quiet_want; go_big_quiet_op; go_big_quiet_on))
  refine wpQuiet_nil ?_
  have HS19 : Hid (H3 w k1 d1 t1 gk gd gt rk rd rt (wH.drewN 1)) := HS18.out.drewN 1
  have HR19 : Hid (Rd (wH.drewN 1) aN T1) := HR18.out
  clear HS18 HR18
  generalize wH.drewN 1 = wI at *
  have C18 := HEq.out k1 d1 t1 wI HS19.out (Hd1.out trivial) (Ht1.out trivial)
  rw [Heb1.out trivial] at C18
  go_wp2_with fail
  refine C18.mono ?_
  rintro e w7 ⟨rfl, hw7⟩
  subst w7
  clear C18
  have hcc : (cb1 == cb1) = true := by simp
  have hee : (eb1 == eb1) = true := by simp
  go_wp2
  refine wp_region_tail 19 (by kernel_rfl) (by kernel_rfl) ?_
  simp only [List.take_succ_cons, List.take_zero, List.drop_succ_cons, List.drop_zero]
  repeat (first | go_big_quiet_skip | (go_big_quiet_want; go_big_quiet_op; go_big_quiet_on))
  refine wpQuiet_nil ?_
  have HS20 : Hid (H3 w k1 d1 t1 gk gd gt rk rd rt (wI.drewN 1)) := HS19.out.drewN 1
  have HR20 : Hid (Rd (wI.drewN 1) aN T1) := HR19.out
  clear HS19 HR19
  generalize wI.drewN 1 = wJ at *
  have C19 := follows_any h gk gd capk capd cN key.length data.length aN k1 d1 rk rd w wJ HS20.out.s HT.out HRt.out hgd0 hgkd (Hk1.out trivial) (Hd1.out trivial) (by omega) hcapk (by omega) hcapd (by omega) (by omega) (by rw [HTT.out trivial]; exact HR20.out)
  go_wp2_with fail
  refine C19.mono ?_
  rintro e wK ⟨rfl, hbK⟩
  have HBK : Hid (Below w.heap.size w wK) := hbK
  clear C19 hbK HS20 HR20
  go_wp2
  go_ret
  exact ⟨rfl, HBK.out⟩

end Go.Proofs.YtoclnmjljilfdaaDoor
