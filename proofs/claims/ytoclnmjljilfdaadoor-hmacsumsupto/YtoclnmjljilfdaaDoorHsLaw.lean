import Derived.Test.YtoclnmjljilfdaaDoorHmU
import Derived.Deep.CutRange
namespace Go.Proofs.YtoclnmjljilfdaaDoor
open Go.RowKit

set_option maxRecDepth 100000 in
set_option maxHeartbeats 8000000 in
theorem hsums_core (h : Int) (ak ad : Option Addr) (ck cd : Nat) (key data : List UInt8) (w : World) (T : Tb w) (R : Rt w) (hk : Rd w ak key) (hd : Rd w ad data) (hak : ak = none → key.length = 0 ∧ ck = 0) (hkl : key.length ≤ 1048576) (hdl : data.length ≤ 1048576) :
    Calls Tryd.prog 11 #[.int .i64 h, .slice ak key.length ck, .slice ad data.length cd] w fun e w' => e = .returned (.bool true) ∧ Below w.heap.size w w' := by
  have HT : Hid (Tb w) := T
  have HRt : Hid (Rt w) := R
  have HK : Hid (Rd w ak key) := hk
  have HD : Hid (Rd w ad data) := hd
  have HAK : Hid (ak = none → key.length = 0 ∧ ck = 0) := hak
  have hsl := siz_le h
  have C1 := marked5_any ak ck w.heap.size key w (Nat.le_refl _) (Nat.le_refl _) hk (by omega)
  clear T R hk hd hak
  go_enter Tryd.func11, Tryd.ntmps11
  go_wp2_with fail
  refine C1.mono ?_
  rintro e w1 ⟨v1, rfl, ho1, hb1⟩
  obtain ⟨gk, capk, rk, rfl, hgk, hck, hck2, hK1⟩ := own_clr ho1 (by omega)
  have HK1 : Hid (Cl w1 gk ((key ++ mrk).map B ++ rk)) := hK1
  have HB1 : Hid (Below w.heap.size w w1) := hb1
  have hgk1 : gk < w1.heap.size := hK1.lt
  have C2 := marked5_any ad cd w1.heap.size data w1 (Nat.le_refl _) (Nat.le_refl _) (HD.out.below hb1 (Nat.le_refl _)) (by omega)
  clear C1 ho1 hb1 hK1
  go_wp2_with fail
  refine C2.mono ?_
  rintro e w2 ⟨v2, rfl, ho2, hb2⟩
  obtain ⟨gd, capd, rd, rfl, hgd, hcd, hcd2, hD2⟩ := own_clr ho2 (by omega)
  have hgkd : gk < gd := by omega
  have hgd0 : w.heap.size ≤ gd := by omega
  have hgd2 : gd < w2.heap.size := hD2.lt
  have HS2 : Hid (HSt w key data gk gd rk rd w2) := ⟨HK1.out.below hb2 (by omega), hD2, HB1.out.trans (hb2.mono HB1.out.size)⟩
  have hsk : ∀ W, (Instr.sliceAt 23 (.slice (some ⟨gk, 0, none⟩) (key.length + 200) capk) none (some (.int .i64 (key.length : Int))) none).run Tryd.prog W = .ok (.slice (some ⟨gk, 0, none⟩) key.length capk) W := fun W => slice_high _ _ _ _ W (by omega)
  have hsd : ∀ W, (Instr.sliceAt 23 (.slice (some ⟨gd, 0, none⟩) (data.length + 200) capd) none (some (.int .i64 (data.length : Int))) none).run Tryd.prog W = .ok (.slice (some ⟨gd, 0, none⟩) data.length capd) W := fun W => slice_high _ _ _ _ W (by omega)
  have hcapk : capk ≤ 9223372036854775807 := by unfold maxLen at hck2; omega
  have hcapd : capd ≤ 9223372036854775807 := by unfold maxLen at hcd2; omega
  have HSum : Hid (∀ w', HSt w key data gk gd rk rd w' → Calls Tryd.prog 32 #[.int .i64 h, .slice (some ⟨gk, 0, none⟩) key.length capk, .slice (some ⟨gd, 0, none⟩) data.length capd] w' fun e w'' => ∃ a, e = .returned (.slice a (siz h) (siz h)) ∧ Own w'' w'.heap.size a (tagF h key data) ∧ Below w'.heap.size w' w'') := fun w' hs => hsum_any h (some ⟨gk, 0, none⟩) (some ⟨gd, 0, none⟩) capk capd key data w' (HT.out.below hs.bel) hs.kr hs.dr (by omega) hcapk (by omega) (by omega) hcapd (by omega)
  have HWk : Hid (∀ w', HSt w key data gk gd rk rd w' → Calls Tryd.prog 41 #[.slice (some ⟨gk, 0, none⟩) (key.length + 200) capk, .slice ak key.length ck] w' fun e w'' => e = .returned (.bool true) ∧ ∃ q, w'' = w'.drewN q) := fun w' hs => whole5_any gk capk ck ak key rk w' hs.K (HK.out.below hs.bel (Nat.le_refl _)) (by omega) (by omega)
  have HWd : Hid (∀ w', HSt w key data gk gd rk rd w' → Calls Tryd.prog 41 #[.slice (some ⟨gd, 0, none⟩) (data.length + 200) capd, .slice ad data.length cd] w' fun e w'' => e = .returned (.bool true) ∧ ∃ q, w'' = w'.drewN q) := fun w' hs => whole5_any gd capd cd ad data rd w' hs.D (HD.out.below hs.bel (Nat.le_refl _)) (by omega) (by omega)
  clear C2 ho2 hb2 hD2 HK1 HB1
  have HTl : Hid (True → (tagF h key data).length = siz h) := fun _ => tagF_length h key data
  generalize hTG : tagF h key data = TG at *
  go_wp2
  refine wp_region_tail 9 (by kernel_rfl) (by kernel_rfl) ?_
  simp only [List.take_succ_cons, List.take_zero, List.drop_succ_cons, List.drop_zero]
  repeat (first | go_big_quiet_skip | (go_big_quiet_want; go_big_quiet_op; go_big_quiet_on))
  refine wpQuiet_nil ?_
  have HS3 : Hid (HSt w key data gk gd rk rd (w2.drewN 1)) := HS2.out.drewN 1
  have hw3 : (w2.drewN 1).heap.size = w2.heap.size := rfl
  generalize w2.drewN 1 = w3 at *
  go_wp2_with fail
  refine (HSum.out w3 HS3.out).mono ?_
  rintro e w4 ⟨a4, rfl, ho4, hb4⟩
  have HA4 : Hid (Own w4 w3.heap.size a4 TG) := ho4
  have HS4 : Hid (HSt w key data gk gd rk rd w4) := HS3.out.below hb4 (Nat.le_refl _)
  have h34 : w3.heap.size ≤ w4.heap.size := hb4.size
  clear ho4 hb4 HS3 HS2
  go_wp2
  refine wp_region_tail 9 (by kernel_rfl) (by kernel_rfl) ?_
  simp only [List.take_succ_cons, List.take_zero, List.drop_succ_cons, List.drop_zero]
  repeat (first | go_big_quiet_skip | (go_big_quiet_want; go_big_quiet_op; go_big_quiet_on))
  refine wpQuiet_nil ?_
  have HS5 : Hid (HSt w key data gk gd rk rd (w4.drewN 1)) := HS4.out.drewN 1
  have HA5 : Hid (Own (w4.drewN 1) w3.heap.size a4 TG) := HA4.out
  have hw5 : (w4.drewN 1).heap.size = w4.heap.size := rfl
  generalize w4.drewN 1 = w5 at *
  go_wp2_with fail
  refine (HSum.out w5 HS5.out).mono ?_
  rintro e w6 ⟨a6, rfl, ho6, hb6⟩
  have HA6 : Hid (Own w6 w3.heap.size a4 TG) := HA5.out.below hb6 (Nat.le_refl _)
  have HR6 : Hid (Rd w6 a6 TG) := ho6.rd
  have Hlo6 : Hid (∀ x, TG ≠ [] → a6 = some x → w5.heap.size ≤ x.block) := fun x hne e => by
    rcases ho6 with ⟨e2, _⟩ | ⟨g, e2, hg, _⟩
    · rw [e2] at e; cases e
    · rw [e2] at e; cases e; exact hg
  have HS6 : Hid (HSt w key data gk gd rk rd w6) := HS5.out.below hb6 (Nat.le_refl _)
  have h56 : w5.heap.size ≤ w6.heap.size := hb6.size
  have HAlt : Hid (∀ k, (Value.slice a4 (siz h) (siz h)).ownBlock = some k → w3.heap.size ≤ k ∧ k < w5.heap.size) := fun k hk => HA5.out.length_block k _ hk
  have C5 := rhsum_any h ak ad ck cd key data w6 (HRt.out.below HS6.out.bel (Nat.le_refl _)) (HK.out.below HS6.out.bel (Nat.le_refl _)) (HD.out.below HS6.out.bel (Nat.le_refl _)) HAK.out (by omega) (by omega)
  rw [hTG] at C5
  clear ho6 hb6 HS5 HA5 HS4 HA4
  go_wp2_with fail
  refine C5.mono ?_
  rintro e w7 ⟨a7, c7, rfl, hc7, hm7, hn7, hr7, hbl7, hb7⟩
  have HA7 : Hid (Own w7 w3.heap.size a4 TG) := HA6.out.below hb7 (Nat.le_refl _)
  have HR7 : Hid (Rd w7 a6 TG) := HR6.out.below hb7 (Nat.le_refl _)
  have HW7 : Hid (Rd w7 a7 TG) := hr7
  have Hlo7 : Hid (∀ x, a7 = some x → w6.heap.size ≤ x.block) := hbl7
  have HS7 : Hid (HSt w key data gk gd rk rd w7) := HS6.out.below hb7 (Nat.le_refl _)
  have h67 : w6.heap.size ≤ w7.heap.size := hb7.size
  have C6 := same5_any a4 a7 (siz h) c7 TG TG w7 HA7.out.rd HW7.out (by rw [HTl.out trivial]; omega)
  rw [HTl.out trivial, decide_eq_true rfl] at C6
  clear C5 hr7 hb7 hbl7 HA6 HR6 HS6 hn7
  go_wp2_with fail
  refine C6.mono ?_
  rintro e w8 ⟨rfl, q, hq⟩
  have HS8 : Hid (HSt w key data gk gd rk rd w8) := by rw [hq]; exact HS7.out.drewN q
  have HA8 : Hid (Own w8 w3.heap.size a4 TG) := by rw [hq]; exact HA7.out
  have HR8 : Hid (Rd w8 a6 TG) := by rw [hq]; exact HR7.out
  have HW8 : Hid (Rd w8 a7 TG) := by rw [hq]; exact HW7.out
  have hw8 : w8.heap.size = w7.heap.size := by rw [hq]; rfl
  clear C6 hq HS7 HA7 HR7 HW7
  go_wp2_with fail
  refine (HWk.out w8 HS8.out).mono ?_
  rintro e w9 ⟨rfl, q, hq⟩
  have HS9 : Hid (HSt w key data gk gd rk rd w9) := by rw [hq]; exact HS8.out.drewN q
  have HA9 : Hid (Own w9 w3.heap.size a4 TG) := by rw [hq]; exact HA8.out
  have HR9 : Hid (Rd w9 a6 TG) := by rw [hq]; exact HR8.out
  have HW9 : Hid (Rd w9 a7 TG) := by rw [hq]; exact HW8.out
  have hw9 : w9.heap.size = w8.heap.size := by rw [hq]; rfl
  clear hq HS8 HA8 HR8 HW8
  go_wp2_with fail
  refine (HWd.out w9 HS9.out).mono ?_
  rintro e wA ⟨rfl, q, hq⟩
  have HSA : Hid (HSt w key data gk gd rk rd wA) := by rw [hq]; exact HS9.out.drewN q
  have HAA : Hid (∃ l' : List UInt8, l'.length = siz h ∧ Own wA w3.heap.size a4 l') := ⟨TG, HTl.out trivial, by rw [hq]; exact HA9.out⟩
  have HRA : Hid (Rd wA a6 TG) := by rw [hq]; exact HR9.out
  have HWA : Hid (Rd wA a7 TG) := by rw [hq]; exact HW9.out
  have hwA : wA.heap.size = w9.heap.size := by rw [hq]; rfl
  clear hq HS9 HA9 HR9 HW9
  obtain ⟨G, HG, hG0, hG1, hG2, HGb⟩ : ∃ G : Nat, Hid (∀ k, (Value.slice a4 (siz h) (siz h)).ownBlock = some k → k = G) ∧ w.heap.size ≤ G ∧ gk ≠ G ∧ gd ≠ G ∧ Hid (Off a6 TG G ∧ Off a7 TG G) := by
    have hb5 := HAlt.out
    cases a4 with
    | none =>
      refine ⟨wA.heap.size, (fun k hk => by cases hk), HSA.out.bel.size, by omega, by omega, HRA.out.off _ (Nat.le_refl _), HWA.out.off _ (Nat.le_refl _)⟩
    | some x =>
      have h1 := hb5 x.block rfl
      have hs := HSA.out.bel.size
      refine ⟨x.block, (fun k hk => by cases hk; rfl), by omega, by omega, by omega, fun y hne e => ?_, fun y hne e => ?_⟩
      · have := Hlo6.out y hne e; omega
      · have := Hlo7.out y e; omega
  clear Hlo6 Hlo7 HAlt
  go_wp2
  go_loopw [12] (fun s ws => ∃ i : Nat, s = .int .i64 (i : Int) ∧ i ≤ siz h ∧ Hid (∃ l' : List UInt8, l'.length = siz h ∧ Own ws w3.heap.size a4 l') ∧ Hid (But wA ws G)) (fun s _ => siz h - (intOf s).toNat)
  case atStart => exact ⟨0, rfl, by omega, HAA, But.refl _ _⟩
  case round =>
    clear HAA
    obtain ⟨i, rfl, hi, hA, hbut⟩ := hrel
    by_cases hlt : i < siz h
    · obtain ⟨l', hl', ho⟩ := hA.out
      obtain ⟨g, rfl, hg, hbl⟩ : ∃ g, a4 = some ⟨g, 0, none⟩ ∧ w3.heap.size ≤ g ∧ Bl 5 wr g (l'.map B) := by
        rcases ho with ⟨_, h0⟩ | h0
        · subst h0; simp at hl'; omega
        · exact h0
      obtain rfl : g = G := HG.out g rfl
      have gf := hbl.frozen i
      have gc := hbl.cell i (by simp; omega)
      rw [List.getElem_map] at gc
      have Hs : Hid (∀ x : UInt8, ∃ l'' : List UInt8, l''.length = siz h ∧ Own (wr.setCell ⟨g, i, none⟩ (B x)) w3.heap.size (some ⟨g, 0, none⟩) l'') := fun x => ⟨l'.set i x, by simp [hl'], .inr ⟨g, rfl, hg, by rw [List.map_set]; exact hbl.set i (B x)⟩⟩
      unfold B at gc
      generalize l'[i] = x at *
      have hx := x.toNat_lt
      have hw : (.int .u8 (IntKind.u8.wrap ((x.toNat : Int) + 1)) : Value) = B (x + 1) := by
        unfold B
        rw [IntKind.wrap_u8', UInt8.toNat_add]
        first | rfl | (congr 1; done) | (congr 1; omega)
      have Hw : Hid (True → (.int .u8 (IntKind.u8.wrap ((x.toNat : Int) + 1)) : Value) = B (x + 1)) := fun _ => hw
      clear hbl ho hl' hA hw
      go_wp2
      refine ⟨⟨i + 1, by go_num, by omega, ?_, hbut.out.set _ _⟩, by simp [intOf]; omega⟩
      have h1 := Hs.out (x + 1)
      rw [← Hw.out trivial] at h1
      exact h1
    · obtain rfl : i = siz h := by omega
      have HSB : Hid (HSt w key data gk gd rk rd wr) := HSA.out.but hbut.out hG0 hG1 hG2
      have HRB : Hid (Rd wr a6 TG) := HRA.out.but hbut.out HGb.out.1
      have HWB : Hid (Rd wr a7 TG) := HWA.out.but hbut.out HGb.out.2
      have HO0 : Hid (∃ xs, wr.ownsRow 0 5 1 (.slice a4 (siz h) (siz h)) (siz h + 0) xs) := by
        obtain ⟨l', hl', ho⟩ := hA.out
        exact ⟨_, own_row0 ho hl' (by omega)⟩
      have Hv0 : Hid (∀ k, (Value.slice a4 (siz h) (siz h)).ownBlock = some k → k = G ∨ wr.heap.size ≤ k) := fun k hk => .inl (HG.out k hk)
      clear hA hbut HSA HRA HWA hi hlt HG
      rename World => wB
      go_wp2
      go_loopw [13, 14] (fun s13 s ws => ∃ k : Nat, s = .int .i64 (k : Int) ∧ k ≤ 200 ∧ Hid (∃ xs, ws.ownsRow 0 5 1 s13 (siz h + k) xs) ∧ Hid (∀ b, s13.ownBlock = some b → b = G ∨ wB.heap.size ≤ b) ∧ Hid (But wB ws G)) (fun _ s _ => 200 - (intOf s).toNat)
      case atStart => exact ⟨0, rfl, by omega, HO0, Hv0, But.refl _ _⟩
      case round =>
        clear HO0 Hv0
        obtain ⟨k, rfl, hk, hown, hv, hbut⟩ := hrel
        by_cases hlt : k < 200
        · obtain ⟨xs, hxs⟩ := hown.out
          obtain ⟨v', wn, hrun, h1, h2, h3⟩ := app_step (y := .int .u8 99) hbut.out hv.out hxs rfl (by omega)
          have H1 : Hid (∃ xs, wn.ownsRow 0 5 1 v' (siz h + (k + 1)) xs) := ⟨_, h1⟩
          have H2 : Hid (But wB wn G) := h2
          have H3 : Hid (∀ b, v'.ownBlock = some b → b = G ∨ wB.heap.size ≤ b) := h3
          clear h1 h2 h3 hxs hown hv hbut
          go_wp2_with (at_builtin; refine wpList_append_run rfl (.tmp 80) (.tmp 81) 23 rfl _ _ _ wn rfl rfl hrun ?_)
          go_wp2
          exact ⟨⟨k + 1, by go_num, by omega, H1, H3, H2⟩, by simp [intOf]; omega⟩
        · obtain rfl : k = 200 := by omega
          obtain ⟨av, cv, rfl⟩ : ∃ a c, u13 = .slice a (siz h + 200) c := by
            obtain ⟨xs, hxs⟩ := hown.out
            rcases hxs.2 with ⟨_, h0⟩ | ⟨g', cap, cur, e, _⟩
            · omega
            · exact ⟨_, _, e⟩
          have HSC : Hid (HSt w key data gk gd rk rd wr) := HSB.out.but hbut.out hG0 hG1 hG2
          have HRC : Hid (Rd wr a6 TG) := HRB.out.but hbut.out HGb.out.1
          have HWC : Hid (Rd wr a7 TG) := HWB.out.but hbut.out HGb.out.2
          have C7 := same5_any a6 a7 (siz h) c7 TG TG wr HRC.out HWC.out (by rw [HTl.out trivial]; omega)
          rw [HTl.out trivial, decide_eq_true rfl] at C7
          clear hown hv hbut hk hlt HSB HRB HWB HGb hG0 hG1 hG2
          rename World => wC
          go_wp2_with fail
          refine C7.mono ?_
          rintro e w8 ⟨rfl, q, hq⟩
          have HS8 : Hid (HSt w key data gk gd rk rd w8) := by rw [hq]; exact HSC.out.drewN q
          clear C7 hq HSC HRC HWC
          go_wp2_with fail
          refine (HWk.out w8 HS8.out).mono ?_
          rintro e w9 ⟨rfl, q, hq⟩
          have HS9 : Hid (HSt w key data gk gd rk rd w9) := by rw [hq]; exact HS8.out.drewN q
          clear hq HS8
          go_wp2_with fail
          refine (HWd.out w9 HS9.out).mono ?_
          rintro e wD ⟨rfl, q, hq⟩
          have HSD : Hid (HSt w key data gk gd rk rd wD) := by rw [hq]; exact HS9.out.drewN q
          clear hq HS9 HWk HWd HSum
          have C8 := turned5_any gk capk key (mrk.map B ++ rk) wD (by rw [← List.append_assoc, ← List.map_append]; exact HSD.out.K) (by omega)
          go_wp2_with fail
          refine C8.mono ?_
          rintro e wE ⟨rfl, ⟨k1, hk1, hK1⟩, hbE⟩
          have HKE : Hid (Cl wE gk (k1.map B ++ (mrk.map B ++ rk))) := hK1
          have HDE : Hid (Cl wE gd (data.map B ++ (mrk.map B ++ rd))) := by
            rw [← List.append_assoc, ← List.map_append]
            exact hbE.other HSD.out.D (by omega)
          have HBE : Hid (Below w.heap.size w wE) := HSD.out.bel.trans (hbE.below HSD.out.bel.size hgk)
          clear C8 hK1 hbE HSD
          have C9 := turned5_any gd capd data (mrk.map B ++ rd) wE HDE.out (by omega)
          go_wp2_with fail
          refine C9.mono ?_
          rintro e wF ⟨rfl, ⟨d1, hd1, hD1⟩, hbF⟩
          have HSF : Hid (HSt w k1 d1 gk gd rk rd wF) := ⟨by rw [List.map_append, List.append_assoc]; exact hbF.other HKE.out (by omega), by rw [List.map_append, List.append_assoc]; exact hD1, HBE.out.trans (hbF.below HBE.out.size hgd0)⟩
          clear C9 hD1 hbF HKE HDE HBE
          have HCk : Hid (∀ w', HSt w k1 d1 gk gd rk rd w' → Calls Tryd.prog 43 #[.slice (some ⟨gk, 0, none⟩) key.length capk] w' fun e w'' => ∃ a c, e = .returned (.slice a key.length c) ∧ (a = none → k1.length = 0 ∧ c = 0) ∧ Rd w'' a k1 ∧ HSt w k1 d1 gk gd rk rd w'' ∧ Below w'.heap.size w' w'') := fun w' hs => by
            have C := copied5_any (some ⟨gk, 0, none⟩) capk w'.heap.size k1 w' (Nat.le_refl _) (Nat.le_refl _) hs.kr (by omega)
            rw [hk1] at C
            refine C.mono ?_
            rintro e w'' ⟨v, rfl, ho, hb⟩
            obtain ⟨a, c, rfl, hl, _, _, hn, hr, _⟩ := own_rd ho
            exact ⟨a, c, rfl, (by rw [hk1]; exact hn), hr, hs.below hb (Nat.le_refl _), hb⟩
          have HCd : Hid (∀ w', HSt w k1 d1 gk gd rk rd w' → Calls Tryd.prog 43 #[.slice (some ⟨gd, 0, none⟩) data.length capd] w' fun e w'' => ∃ a c, e = .returned (.slice a data.length c) ∧ Rd w'' a d1 ∧ HSt w k1 d1 gk gd rk rd w'' ∧ Below w'.heap.size w' w'') := fun w' hs => by
            have C := copied5_any (some ⟨gd, 0, none⟩) capd w'.heap.size d1 w' (Nat.le_refl _) (Nat.le_refl _) hs.dr (by omega)
            rw [hd1] at C
            refine C.mono ?_
            rintro e w'' ⟨v, rfl, ho, hb⟩
            obtain ⟨a, c, rfl, hl, _, _, hn, hr, _⟩ := own_rd ho
            exact ⟨a, c, rfl, hr, hs.below hb (Nat.le_refl _), hb⟩
          have HCs : Hid (∀ w' a1 c1 a2 c2, HSt w k1 d1 gk gd rk rd w' → Rd w' a1 k1 → (a1 = none → k1.length = 0 ∧ c1 = 0) → Rd w' a2 d1 → Calls Tryd.prog 40 #[.int .i64 h, .slice a1 key.length c1, .slice a2 data.length c2] w' fun e w'' => ∃ a c, e = .returned (.slice a (siz h) c) ∧ Rd w'' a (tagF h k1 d1) ∧ HSt w k1 d1 gk gd rk rd w'') := fun w' a1 c1 a2 c2 hs hr1 hn1 hr2 => by
            have C := rhsum_any h a1 a2 c1 c2 k1 d1 w' (HRt.out.below hs.bel (Nat.le_refl _)) hr1 hr2 hn1 (by omega) (by omega)
            rw [hk1, hd1] at C
            refine C.mono ?_
            rintro e w'' ⟨a, c, rfl, _, _, _, hr, _, hb⟩
            exact ⟨a, c, rfl, hr, hs.below hb (Nat.le_refl _)⟩
          have HCh : Hid (∀ w', HSt w k1 d1 gk gd rk rd w' → Calls Tryd.prog 32 #[.int .i64 h, .slice (some ⟨gk, 0, none⟩) key.length capk, .slice (some ⟨gd, 0, none⟩) data.length capd] w' fun e w'' => ∃ a, e = .returned (.slice a (siz h) (siz h)) ∧ Own w'' w'.heap.size a (tagF h k1 d1) ∧ Below w'.heap.size w' w'') := fun w' hs => by
            have C := hsum_any h (some ⟨gk, 0, none⟩) (some ⟨gd, 0, none⟩) capk capd k1 d1 w' (HT.out.below hs.bel) hs.kr hs.dr (by omega) hcapk (by omega) (by omega) hcapd (by omega)
            rw [hk1, hd1] at C
            exact C
          have HTl1 : Hid (True → (tagF h k1 d1).length = siz h) := fun _ => tagF_length h k1 d1
          generalize tagF h k1 d1 = T1 at *
          go_upto_region 21 with fail
          go_cut [15] from 117 to 128 (fun s wx => ∃ a c, s = .slice a (siz h) c ∧ Hid (Rd wx a T1) ∧ Hid (HSt w k1 d1 gk gd rk rd wx))
          case first =>
            have hSF := HSF.out
            clear HSF
            go_region_with (first
              | (go_at_call_of 43 (Value.slice (some ⟨gk, 0, none⟩) key.length capk); refine (HCk.out _ (by repeat (first | with_reducible assumption | with_reducible apply HSt.drew))).mono ?_; rintro e wx ⟨ax, cx, rfl, hnx, hrx, hsx, hbx⟩)
              | (go_at_call_of 43 (Value.slice (some ⟨gd, 0, none⟩) data.length capd); refine (HCd.out _ (by repeat (first | with_reducible assumption | with_reducible apply HSt.drew))).mono ?_; rintro e wy ⟨ay, cy, rfl, hry, hsy, hby⟩)
              | (go_at_call 40; refine (HCs.out _ _ _ _ _ (by repeat (first | with_reducible assumption | with_reducible apply HSt.drew)) (by first | with_reducible assumption | (refine Rd.below ?_ (by with_reducible assumption) (Nat.le_refl _); with_reducible assumption)) (by with_reducible assumption) (by first | with_reducible assumption | (refine Rd.below ?_ (by with_reducible assumption) (Nat.le_refl _); with_reducible assumption))).mono ?_; rintro e wz ⟨az, cz, rfl, hrz, hsz⟩))
            all_goals go_wp2_with fail
            all_goals go_meet
            all_goals exact ⟨_, _, rfl, hrz, hsz⟩
          case rest =>
          obtain ⟨aN, cN, rfl, HRN, HSN⟩ := hcut
          clear HSF HCk HCd HCs
          go_wp2
          refine wp_region_tail 9 (by kernel_rfl) (by kernel_rfl) ?_
          simp only [List.take_succ_cons, List.take_zero, List.drop_succ_cons, List.drop_zero]
          repeat (first | go_big_quiet_skip | (go_big_quiet_want; go_big_quiet_op; go_big_quiet_on))
          refine wpQuiet_nil ?_
          have HS3 : Hid (HSt w k1 d1 gk gd rk rd (wc.drewN 1)) := HSN.out.drewN 1
          have HR3 : Hid (Rd (wc.drewN 1) aN T1) := HRN.out
          generalize wc.drewN 1 = wG at *
          go_wp2_with fail
          refine (HCh.out wG HS3.out).mono ?_
          rintro e wH ⟨aH, rfl, hoH, hbH⟩
          have C9 := same5_any aH aN (siz h) cN T1 T1 wH hoH.rd (HR3.out.below hbH (Nat.le_refl _)) (by rw [HTl1.out trivial]; omega)
          rw [HTl1.out trivial, decide_eq_true rfl] at C9
          have HBH : Hid (Below w.heap.size w wH) := (HS3.out.below hbH (Nat.le_refl _)).bel
          clear hoH hbH HS3 HR3 HSN HRN HCh
          go_wp2_with fail
          refine C9.mono ?_
          rintro e wI ⟨rfl, q, rfl⟩
          have HBI : Hid (Below w.heap.size w (wH.drewN q)) := below_drewN HBH.out q
          clear C9 HBH
          go_wp2
          go_ret
          exact ⟨rfl, HBI.out⟩

end Go.Proofs.YtoclnmjljilfdaaDoor
