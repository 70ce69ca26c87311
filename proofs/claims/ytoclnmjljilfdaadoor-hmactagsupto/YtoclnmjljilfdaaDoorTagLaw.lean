import Derived.Test.YtoclnmjljilfdaaDoorIsLaw
import Derived.Test.YtoclnmjljilfdaaDoorKeep
namespace Go.Proofs.YtoclnmjljilfdaaDoor
open Go.RowKit

theorem own_base0 {w : World} {b1 b2 n : Nat} {e : TypeId} {v : Value} {xs : List Value} (h : w.ownsRow b1 e 1 v n xs) (hb : b2 ≤ b1) : w.ownsRow b2 e 1 v n xs := by
  refine ⟨h.1, ?_⟩
  rcases h.2 with h0 | ⟨g, cap, cur, e, hg, r⟩
  · exact .inl h0
  · exact .inr ⟨g, cap, cur, e, by omega, r⟩
theorem rd_take {w : World} {a : Option Addr} {l : List UInt8} (h : Rd w a l) (m : Nat) : Rd w a (l.take m) := by
  rcases h with h | ⟨g, off, e, hg, hc⟩
  · exact .inl (by rw [h]; simp)
  · refine .inr ⟨g, off, e, hg, fun j hj => ?_⟩
    have h1 : j < m ∧ j < l.length := by simpa [List.length_take, Nat.lt_min] using hj
    rw [hc j h1.2, List.getD_eq_getElem?_getD, List.getD_eq_getElem?_getD, List.getElem?_take_of_lt h1.1]
theorem bl_head {w : World} {g : Nat} {l : List UInt8} {r : List Value} (h : Bl 5 w g (l.map B ++ r)) : Rd w (some ⟨g, 0, none⟩) l := by
  refine .inr ⟨g, 0, rfl, h.lt, fun j hj => ?_⟩
  rw [Nat.zero_add, h.cell j (by simp; omega), List.getElem_append_left (by simpa using hj), List.getElem_map, List.getD_eq_getElem?_getD, List.getElem?_eq_getElem hj]
  rfl
theorem set_xor (l : List UInt8) (k : Nat) (x : UInt8) (h : k < l.length) : decide (l = l.set k (l.getD k 0 ^^^ x)) = decide (x = 0) := by
  rw [decide_eq_decide]
  constructor
  · intro e
    have h1 := congrArg (fun m => m.getD k 0) e
    simp only [List.getD_eq_getElem?_getD, List.getElem?_set_self h, Option.getD_some] at h1
    rw [List.getElem?_eq_getElem h, Option.getD_some] at h1
    have h2 : l[k] ^^^ (l[k] ^^^ x) = l[k] ^^^ l[k] := by rw [← h1]
    rw [← UInt8.xor_assoc, UInt8.xor_self, UInt8.zero_xor] at h2
    exact h2
  · intro e
    subst e
    rw [UInt8.xor_zero, List.getD_eq_getElem?_getD, List.getElem?_eq_getElem h, Option.getD_some, List.set_getElem_self]
theorem byte_zero (x : UInt8) : ((x.toNat : Int) == 0) = decide (x = 0) := by
  by_cases h : x = 0
  · subst h; rfl
  · have h1 : x.toNat ≠ 0 := fun e => h (UInt8.toNat_inj.1 e)
    simp [h]
    omega
theorem tmod_case (x : Int) (n : Nat) (hn : 0 < n) (t : Int) (ht : Int.tmod x (n : Int) = t) : (∃ m : Nat, t = (m : Int) ∧ m < n) ∨ ∃ m : Nat, t < 0 ∧ t + (n : Int) = (m : Int) ∧ m < n := by
  have hx := Int.tmod_eq_emod (a := x) (b := (n : Int))
  have e1 := Int.emod_nonneg x (b := (n : Int)) (by omega)
  have e2 := Int.emod_lt_of_pos x (b := (n : Int)) (by omega)
  rw [ht] at hx
  rcases Int.lt_or_le t 0 with h | h
  · exact .inr ⟨(t + n).toNat, h, by split at hx <;> omega, by split at hx <;> omega⟩
  · exact .inl ⟨t.toNat, by omega, by split at hx <;> omega⟩

set_option maxRecDepth 100000 in
set_option maxHeartbeats 8000000 in
theorem tags_core (h place bz n : Int) (ak ad : Option Addr) (ck cd : Nat) (key data : List UInt8) (w : World) (T : Tb w) (hk : Rd w ak key) (hd : Rd w ad data) (hck : key.length ≤ ck) (hck2 : ck ≤ 100000000) (hcd : data.length ≤ cd) (hcd2 : cd ≤ 100000000) (_hp : -9223372036854775808 ≤ place ∧ place ≤ 9223372036854775807) (_hb : 0 ≤ bz ∧ bz ≤ 255) (_hn : -9223372036854775808 ≤ n ∧ n ≤ 9223372036854775807) :
    Calls Tryd.prog 8 #[.int .i64 h, .slice ak key.length ck, .slice ad data.length cd, .int .i64 place, .int .u8 bz, .int .i64 n] w fun e w' => e = .returned (.bool true) ∧ Below w.heap.size w w' := by
  obtain ⟨x, rfl⟩ : ∃ x : UInt8, bz = (x.toNat : Int) := ⟨UInt8.ofNat bz.toNat, by rw [UInt8.toNat_ofNat']; omega⟩
  obtain ⟨i0, hi, hz0, hz1, hz2⟩ := info_parts infoB
  have HT : Hid (Tb w) := T
  have HK : Hid (Rd w ak key) := hk
  have HD : Hid (Rd w ad data) := hd
  have hsl := siz_le h
  clear T hk hd _hb
  go_enter Tryd.func8, Tryd.ntmps8
  go_wp2_with fail
  refine (started5_any w HT.out).mono ?_
  rintro e w1 ⟨rfl, hb1⟩
  have HB1 : Hid (Below w.heap.size w w1) := hb1
  clear hb1
  go_wp2_with fail
  refine (hsum_any h ak ad ck cd key data w1 (HT.out.below HB1.out) (HK.out.below HB1.out (Nat.le_refl _)) (HD.out.below HB1.out (Nat.le_refl _)) hck (by omega) (by omega) hcd (by omega) (by omega)).mono ?_
  rintro e w2 ⟨a2, rfl, ho2, hb2⟩
  have HO2 : Hid (Rd w2 a2 (tagF h key data)) := ho2.rd
  have HB2 : Hid (Below w.heap.size w w2) := HB1.out.trans (hb2.mono HB1.out.size)
  have HTl : Hid (True → (tagF h key data).length = siz h) := fun _ => tagF_length h key data
  have HC : Hid (∀ (W : World) (at' : Option Addr) (ct : Nat) (tag : List UInt8), Below w.heap.size w W → Rd W at' tag → tag.length ≤ 1000 → Calls Tryd.prog 34 #[.int .i64 h, .slice ak key.length ck, .slice ad data.length cd, .slice at' tag.length ct] W fun e w' => e = .returned (.bool (decide (0 < siz h ∧ tagF h key data = tag))) ∧ Below W.heap.size W w') :=
    fun W at' ct tag hb hr hl => check_any h ak ad at' ck cd ct key data tag W (HT.out.below hb) (HK.out.below hb (Nat.le_refl _)) (HD.out.below hb (Nat.le_refl _)) hr hck (by omega) (by omega) hcd (by omega) (by omega) (by omega)
  have CB := block5_any h w2
  by_cases hz : blk h = 0
  · have hs0 := (blk_siz h).1 hz
    have E0 := HC.out w2 a2 0 (tagF h key data) HB2.out HO2.out (by rw [HTl.out trivial]; omega)
    rw [HTl.out trivial, hs0, show decide (0 < 0 ∧ tagF h key data = tagF h key data) = false from by simp] at E0
    rw [hz] at CB
    rw [hs0]
    clear ho2 hb2 hz hs0 HC
    go_wp2_with fail
    refine CB.mono ?_
    rintro e w3 ⟨rfl, hw3⟩
    subst w3
    clear CB
    go_wp2_with fail
    refine E0.mono ?_
    rintro e w3 ⟨rfl, hb3⟩
    have HB3 : Hid (Below w.heap.size w w3) := HB2.out.trans (hb3.mono HB2.out.size)
    clear E0 hb3
    go_wp2
    go_ret
    exact ⟨rfl, HB3.out⟩
  · have hS0 : 0 < siz h := by have := mt (blk_siz h).2 hz; omega
    have HCK : Hid (∀ (W : World) (at' : Option Addr) (ct : Nat) (tag : List UInt8), Below w.heap.size w W → Rd W at' tag → tag.length ≤ 1000 → Calls Tryd.prog 34 #[.int .i64 h, .slice ak key.length ck, .slice ad data.length cd, .slice at' tag.length ct] W fun e w' => e = .returned (.bool (decide (tagF h key data = tag))) ∧ Below W.heap.size W w') := fun W at' ct tag hb hr hl => by
      have h1 := HC.out W at' ct tag hb hr hl
      rw [show decide (0 < siz h ∧ tagF h key data = tag) = decide (tagF h key data = tag) from by simp [hS0]] at h1
      exact h1
    obtain ⟨N, hN⟩ : ∃ N, blk h = N := ⟨_, rfl⟩
    rw [hN] at CB hz
    have hN0 : 0 < N := by omega
    obtain ⟨S, hS⟩ : ∃ S, siz h = S := ⟨_, rfl⟩
    rw [hS] at HTl hS0 hsl
    rw [hS]
    have E0 := HCK.out w2 a2 S (tagF h key data) HB2.out HO2.out (by rw [HTl.out trivial]; omega)
    rw [HTl.out trivial, decide_eq_true rfl] at E0
    clear ho2 hb2 hz HC hN hS HB1
    generalize tagF h key data = TG at *
    go_wp2_with fail
    refine CB.mono ?_
    rintro e w3 ⟨rfl, hw3⟩
    subst w3
    clear CB
    go_wp2_with fail
    refine E0.mono ?_
    rintro e w3 ⟨rfl, hb3⟩
    have HB3 : Hid (Below w.heap.size w w3) := HB2.out.trans (hb3.mono HB2.out.size)
    have HR3 : Hid (Rd w3 a2 TG) := HO2.out.below hb3 (Nat.le_refl _)
    clear E0 hb3 HB2 HO2
    obtain ⟨t, ht⟩ : ∃ t, Int.tmod n (S : Int) = t := ⟨_, rfl⟩
    have hcase := tmod_case n S (by omega) t ht
    rcases hcase with ⟨mm, rfl, hmm⟩ | ⟨mm, ht0, hsum, hmm⟩
    · have hsl := fun W => slice_high a2 S S mm W (by omega)
      have HTk : Hid (True → (TG.take mm).length = mm) := fun _ => by rw [List.length_take, HTl.out trivial]; omega
      have hd1 : decide (TG = TG.take mm) = false := by rw [decide_eq_false_iff_not]; intro e; have := congrArg List.length e; rw [HTk.out trivial, HTl.out trivial] at this; omega
      have hd2 : decide (TG.take mm = TG) = false := by rw [decide_eq_false_iff_not]; intro e; have := congrArg List.length e; rw [HTk.out trivial, HTl.out trivial] at this; omega
      have E1 := HCK.out w3 a2 S (TG.take mm) HB3.out (rd_take HR3.out mm) (by rw [HTk.out trivial]; omega)
      rw [HTk.out trivial, hd1] at E1
      go_wp2_with fail
      refine E1.mono ?_
      rintro e w4 ⟨rfl, hb4⟩
      have HB4 : Hid (Below w.heap.size w w4) := HB3.out.trans (hb4.mono HB3.out.size)
      have HRTG : Hid (Rd w4 a2 TG) := HR3.out.below hb4 (Nat.le_refl _)
      have E2 := equal_any a2 a2 S S TG (TG.take mm) w4 HRTG.out (rd_take HRTG.out mm) (by rw [HTl.out trivial]; omega) (by rw [HTk.out trivial]; omega)
      have E3 := equal_any a2 a2 S S (TG.take mm) TG w4 (rd_take HRTG.out mm) HRTG.out (by rw [HTk.out trivial]; omega) (by rw [HTl.out trivial]; omega)
      rw [HTk.out trivial, HTl.out trivial, hd1] at E2
      rw [HTk.out trivial, HTl.out trivial, hd2] at E3
      clear E1 hb4 HB3 HR3 hd1 hd2 HTk
      go_wp2_with fail
      refine E2.mono ?_
      rintro e w5 ⟨rfl, hw5⟩
      subst w5
      clear E2
      go_wp2_with fail
      refine E3.mono ?_
      rintro e w5 ⟨rfl, hw5⟩
      subst w5
      clear E3 hsl
      have HO0 : Hid (w4.ownsRow w4.heap.size 5 1 (.slice none 0 0) (0 + 0) (([] ++ TG.take 0 : List UInt8).map B)) := by
        show World.ownsRow _ _ _ _ _ _ _
        exact World.ownsRow_nil _ _ _ _
      have HB0 : Hid (Below w4.heap.size w4 w4) := Below.refl _ _
      go_wp2
      go_loopw [15, 16] (fun s sk ws => ∃ k : Nat, sk = .int .i64 (k : Int) ∧ k ≤ S ∧ Hid (ws.ownsRow w4.heap.size 5 1 s (0 + k) (([] ++ (TG).take k).map B)) ∧ Hid (Below w4.heap.size w4 ws)) (fun _ s _ => S - (intOf s).toNat)
      case atStart => exact ⟨0, rfl, by omega, HO0, HB0⟩
      case round =>
        clear HO0 HB0
        obtain ⟨k, rfl, hk, hown, hbel⟩ := hrel
        by_cases hlt : k < S
        · have hs2 : w4.heap.size ≤ wr.heap.size := by have := hbel.out.size; omega
          have hr2 := HRTG.out.below hbel.out (Nat.le_refl _)
          rcases hr2 with hr2 | ⟨b, o, rfl, hb, hc⟩
          · (have h0 := HTl.out trivial); rw [hr2] at h0; simp at h0; omega
          have g1 := hc k (by rw [HTl.out trivial]; exact hlt)
          unfold B at g1
          have HT8 : Hid (True → (TG).take (k + 1) = (TG).take k ++ [TG.getD k 0]) := fun _ => take_getD TG k (by rw [HTl.out trivial]; exact hlt)
          clear hc
          generalize TG.getD k 0 = y at *
          go_wp2_with (at_builtin; refine append_rd rfl (.tmp 82) (.tmp 87) rfl w4.heap.size i0 hi hz0 hz1 hz2 _ (0 + k) ([] ++ (TG).take k) rfl (hown.out.alloc _) (some ⟨wr.heap.size, 0, none⟩) 1 1 [y] rfl rfl (fun e => by cases e) (.inr ⟨wr.heap.size, 0, rfl, by simp, fun j hj => by (have : j = 0 := by simpa using hj); subst this; simp [B]⟩) (by omega) (by simp; omega) ?_; intro v5 w5 hown5 hgrow5)
          have HO5 : Hid (w5.ownsRow w4.heap.size 5 1 v5 (0 + (k + 1)) (([] ++ (TG).take (k + 1)).map B)) := by
            rw [HT8.out trivial, ← List.append_assoc]
            exact hown5
          have HB5 : Hid (Below w4.heap.size w4 w5) := hbel.out.trans ((((alloc_below wr _).mono hs2)).grown hgrow5 (by rw [alloc_size]; omega) (own_block hown.out))
          clear hown5 hgrow5
          go_wp2
          exact ⟨⟨k + 1, by go_num, by omega, HO5, HB5⟩, by simp [intOf]; omega⟩
        · obtain rfl : S = k := by omega
          have h1 := hown.out
          rw [List.take_of_length_le (by rw [HTl.out trivial]; exact Nat.le_refl _), Nat.zero_add, List.nil_append] at h1
          have hs9 := hbel.out.size
          obtain ⟨v', w6, hrun, hown6, hgr6, _, hkeep⟩ := append_keep (wr.alloc (.cells #[.int .u8 (x.toNat : Int)] 5)) 23 5 23 i0 (.int .u8 0) 1 Tryd.underlying23 hi hz0 hz1 hz2 rfl u15 S (TG.map B) ((own_base0 h1 (Nat.zero_le _)).alloc _) ⟨wr.heap.size, 0, none⟩ (.int .u8 (x.toNat : Int)) (by rw [World.cell?_alloc_at _ _ _ _ rfl]; rfl) rfl (by omega) (by unfold maxLen; omega)
          have hu6 := hkeep u15 S (TG.map B) (Nat.le_refl _) rfl ((own_base0 h1 (Nat.zero_le _)).alloc _)
          have hub := own_block h1
          have HB6w : Hid (Below w4.heap.size w4 w6) := hbel.out.trans ((((alloc_below wr _).mono hs9)).grown hgr6 (by rw [alloc_size]; omega) hub)
          have HB6 : Hid (Below w.heap.size w w6) := HB4.out.trans (HB6w.out.mono HB4.out.size)
          have HR6 : Hid (Rd w6 a2 TG) := HRTG.out.below HB6w.out (Nat.le_refl _)
          obtain ⟨gu, cu, rest, rfl, hgu, hu6b⟩ : ∃ gu cu rest, u15 = .slice (some ⟨gu, 0, none⟩) S cu ∧ w4.heap.size ≤ gu ∧ Bl 5 w6 gu (TG.map B ++ rest) := by
            rcases hu6.2 with ⟨e0, hn0⟩ | ⟨g, cap, cur, e0, _, hh, hn, hm, hsz, ht⟩
            · omega
            · refine ⟨g, cap, cur.toList.drop S, e0, hub g (by rw [e0]; rfl), ?_⟩
              rw [Nat.mul_one] at ht
              rw [← ht, List.take_append_drop]
              unfold Bl
              rw [hh]
          have HU6 : Hid (Bl 5 w6 gu (TG.map B ++ rest)) := hu6b
          obtain ⟨al, cl, rfl, hnl, hcl, hml, _, hrl, _⟩ := own_rd (l := TG ++ [x]) (show w6.ownsRow 0 5 1 v' (S + 1) ((TG ++ [x]).map B) from by rw [List.map_append]; exact hown6)
          have D0 := HCK.out w6 al cl (TG ++ [x]) HB6.out hrl (by rw [← hnl]; omega)
          rw [← hnl, show decide (TG = TG ++ [x]) = false from by rw [decide_eq_false_iff_not]; intro e; have := congrArg List.length e; simp at this] at D0
          have HOff : Hid (Off a2 TG gu) := HRTG.out.off gu hgu
          have hgw : w.heap.size ≤ gu := by have := HB4.out.size; omega
          clear h1 hown hown6 hgr6 hkeep hu6 hub hu6b hrl hml hcl hnl HRTG hbel HB6w
          go_wp2_with (at_builtin; refine wpList_append_run rfl (.tmp 89) (.tmp 91) 23 rfl _ _ _ w6 rfl rfl hrun ?_)
          clear hrun
          refine D0.mono ?_
          rintro e w7 ⟨rfl, hb7⟩
          have HB7 : Hid (Below w.heap.size w w7) := HB6.out.trans (hb7.mono HB6.out.size)
          have HR7 : Hid (Rd w7 a2 TG) := HR6.out.below hb7 (Nat.le_refl _)
          have HU7 : Hid (Bl 5 w7 gu (TG.map B ++ rest)) := HU6.out.below hb7 HU6.out.lt
          clear D0 hb7 HB6 HR6 HU6
          obtain ⟨t2, ht2⟩ : ∃ t, Int.tmod place (S : Int) = t := ⟨_, rfl⟩
          have hcase2 := tmod_case place S (by omega) t2 ht2
          rcases hcase2 with ⟨kk, rfl, hkk⟩ | ⟨kk, ht0, hsum2, hkk⟩
          · skip
            have gf := HU7.out.frozen kk
            have gc : w7.cell? ⟨gu, kk, none⟩ = some (.int .u8 ((TG.getD kk 0).toNat : Int)) := by
              rw [HU7.out.cell kk (by rw [List.length_append, List.length_map, HTl.out trivial]; omega), List.getElem_append_left (by rw [List.length_map, HTl.out trivial]; omega), List.getElem_map, List.getD_eq_getElem?_getD, List.getElem?_eq_getElem (by rw [HTl.out trivial]; omega)]
              rfl
            have hxz := xorB (TG.getD kk 0) x
            obtain ⟨z, hz⟩ : ∃ z, TG.getD kk 0 ^^^ x = z := ⟨_, rfl⟩
            obtain ⟨bb, hbb⟩ : ∃ bb, decide (x = 0) = bb := ⟨_, rfl⟩
            have HZ : Hid (True → decide (TG = TG.set kk z) = bb) := fun _ => by rw [← hbb, ← hz]; exact set_xor TG kk x (by rw [HTl.out trivial]; omega)
            have HZ2 : Hid (True → decide (TG.set kk z = TG) = bb) := fun _ => by rw [← HZ.out trivial]; exact decide_eq_decide.2 ⟨fun h => h.symm, fun h => h.symm⟩
            have hx0 : ((x.toNat : Int) == 0) = bb := by rw [← hbb]; exact byte_zero x
            rw [hz] at hxz
            clear hz hbb
            generalize TG.getD kk 0 = y at *
            have hS1 := HU7.out.set kk (B z)
            have HU8 : Hid (Rd (w7.setCell ⟨gu, kk, none⟩ (B z)) (some ⟨gu, 0, none⟩) (TG.set kk z)) := by
              rw [List.set_append_left _ _ (by rw [List.length_map, HTl.out trivial]; omega), ← List.map_set] at hS1
              exact bl_head hS1
            have HB78 : Hid (But w7 (w7.setCell ⟨gu, kk, none⟩ (B z)) gu) := (But.refl _ _).set _ _
            have HB8 : Hid (Below w.heap.size w (w7.setCell ⟨gu, kk, none⟩ (B z))) := HB7.out.trans (HB78.out.below HB7.out.size (by omega))
            have HR8 : Hid (Rd (w7.setCell ⟨gu, kk, none⟩ (B z)) a2 TG) := HR7.out.but HB78.out HOff.out
            clear hS1 HB78 HU7 HB7 HR7
            unfold B at HU8 HB8 HR8
            cases bb
            · go_wp2_with fail
              generalize w7.setCell ⟨gu, kk, none⟩ (.int .u8 (z.toNat : Int)) = w8 at *
              have D1 := HCK.out w8 (some ⟨gu, 0, none⟩) cu (TG.set kk z) HB8.out HU8.out (by rw [List.length_set, HTl.out trivial]; omega)
              rw [List.length_set, HTl.out trivial, HZ.out trivial] at D1
              refine D1.mono ?_
              rintro e w9 ⟨rfl, hb9⟩
              have HB9 : Hid (Below w.heap.size w w9) := HB8.out.trans (hb9.mono HB8.out.size)
              have D2 := equal_any a2 (some ⟨gu, 0, none⟩) S cu TG (TG.set kk z) w9 (HR8.out.below hb9 (Nat.le_refl _)) (HU8.out.below hb9 (Nat.le_refl _)) (by rw [HTl.out trivial]; omega) (by rw [List.length_set, HTl.out trivial]; omega)
              have D3 := equal_any (some ⟨gu, 0, none⟩) a2 cu S (TG.set kk z) TG w9 (HU8.out.below hb9 (Nat.le_refl _)) (HR8.out.below hb9 (Nat.le_refl _)) (by rw [List.length_set, HTl.out trivial]; omega) (by rw [HTl.out trivial]; omega)
              rw [List.length_set, HTl.out trivial, HZ.out trivial] at D2
              rw [List.length_set, HTl.out trivial, HZ2.out trivial] at D3
              clear D1 hb9
              go_wp2_with fail
              refine D2.mono ?_
              rintro e w10 ⟨rfl, hw10⟩
              subst w10
              clear D2
              go_wp2_with fail
              refine D3.mono ?_
              rintro e w10 ⟨rfl, hw10⟩
              subst w10
              clear D3
              go_wp2
              go_ret
              exact ⟨rfl, HB9.out⟩
            · go_wp2_with fail
              generalize w7.setCell ⟨gu, kk, none⟩ (.int .u8 (z.toNat : Int)) = w8 at *
              have D1 := HCK.out w8 (some ⟨gu, 0, none⟩) cu (TG.set kk z) HB8.out HU8.out (by rw [List.length_set, HTl.out trivial]; omega)
              rw [List.length_set, HTl.out trivial, HZ.out trivial] at D1
              refine D1.mono ?_
              rintro e w9 ⟨rfl, hb9⟩
              have HB9 : Hid (Below w.heap.size w w9) := HB8.out.trans (hb9.mono HB8.out.size)
              have D2 := equal_any a2 (some ⟨gu, 0, none⟩) S cu TG (TG.set kk z) w9 (HR8.out.below hb9 (Nat.le_refl _)) (HU8.out.below hb9 (Nat.le_refl _)) (by rw [HTl.out trivial]; omega) (by rw [List.length_set, HTl.out trivial]; omega)
              have D3 := equal_any (some ⟨gu, 0, none⟩) a2 cu S (TG.set kk z) TG w9 (HU8.out.below hb9 (Nat.le_refl _)) (HR8.out.below hb9 (Nat.le_refl _)) (by rw [List.length_set, HTl.out trivial]; omega) (by rw [HTl.out trivial]; omega)
              rw [List.length_set, HTl.out trivial, HZ.out trivial] at D2
              rw [List.length_set, HTl.out trivial, HZ2.out trivial] at D3
              clear D1 hb9
              go_wp2_with fail
              refine D2.mono ?_
              rintro e w10 ⟨rfl, hw10⟩
              subst w10
              clear D2
              go_wp2_with fail
              refine D3.mono ?_
              rintro e w10 ⟨rfl, hw10⟩
              subst w10
              clear D3
              go_wp2
              go_ret
              exact ⟨rfl, HB9.out⟩
          · skip
            have gf := HU7.out.frozen kk
            have gc : w7.cell? ⟨gu, kk, none⟩ = some (.int .u8 ((TG.getD kk 0).toNat : Int)) := by
              rw [HU7.out.cell kk (by rw [List.length_append, List.length_map, HTl.out trivial]; omega), List.getElem_append_left (by rw [List.length_map, HTl.out trivial]; omega), List.getElem_map, List.getD_eq_getElem?_getD, List.getElem?_eq_getElem (by rw [HTl.out trivial]; omega)]
              rfl
            have hxz := xorB (TG.getD kk 0) x
            obtain ⟨z, hz⟩ : ∃ z, TG.getD kk 0 ^^^ x = z := ⟨_, rfl⟩
            obtain ⟨bb, hbb⟩ : ∃ bb, decide (x = 0) = bb := ⟨_, rfl⟩
            have HZ : Hid (True → decide (TG = TG.set kk z) = bb) := fun _ => by rw [← hbb, ← hz]; exact set_xor TG kk x (by rw [HTl.out trivial]; omega)
            have HZ2 : Hid (True → decide (TG.set kk z = TG) = bb) := fun _ => by rw [← HZ.out trivial]; exact decide_eq_decide.2 ⟨fun h => h.symm, fun h => h.symm⟩
            have hx0 : ((x.toNat : Int) == 0) = bb := by rw [← hbb]; exact byte_zero x
            rw [hz] at hxz
            clear hz hbb
            generalize TG.getD kk 0 = y at *
            have hS1 := HU7.out.set kk (B z)
            have HU8 : Hid (Rd (w7.setCell ⟨gu, kk, none⟩ (B z)) (some ⟨gu, 0, none⟩) (TG.set kk z)) := by
              rw [List.set_append_left _ _ (by rw [List.length_map, HTl.out trivial]; omega), ← List.map_set] at hS1
              exact bl_head hS1
            have HB78 : Hid (But w7 (w7.setCell ⟨gu, kk, none⟩ (B z)) gu) := (But.refl _ _).set _ _
            have HB8 : Hid (Below w.heap.size w (w7.setCell ⟨gu, kk, none⟩ (B z))) := HB7.out.trans (HB78.out.below HB7.out.size (by omega))
            have HR8 : Hid (Rd (w7.setCell ⟨gu, kk, none⟩ (B z)) a2 TG) := HR7.out.but HB78.out HOff.out
            clear hS1 HB78 HU7 HB7 HR7
            unfold B at HU8 HB8 HR8
            cases bb
            · go_wp2_with fail
              generalize w7.setCell ⟨gu, kk, none⟩ (.int .u8 (z.toNat : Int)) = w8 at *
              have D1 := HCK.out w8 (some ⟨gu, 0, none⟩) cu (TG.set kk z) HB8.out HU8.out (by rw [List.length_set, HTl.out trivial]; omega)
              rw [List.length_set, HTl.out trivial, HZ.out trivial] at D1
              refine D1.mono ?_
              rintro e w9 ⟨rfl, hb9⟩
              have HB9 : Hid (Below w.heap.size w w9) := HB8.out.trans (hb9.mono HB8.out.size)
              have D2 := equal_any a2 (some ⟨gu, 0, none⟩) S cu TG (TG.set kk z) w9 (HR8.out.below hb9 (Nat.le_refl _)) (HU8.out.below hb9 (Nat.le_refl _)) (by rw [HTl.out trivial]; omega) (by rw [List.length_set, HTl.out trivial]; omega)
              have D3 := equal_any (some ⟨gu, 0, none⟩) a2 cu S (TG.set kk z) TG w9 (HU8.out.below hb9 (Nat.le_refl _)) (HR8.out.below hb9 (Nat.le_refl _)) (by rw [List.length_set, HTl.out trivial]; omega) (by rw [HTl.out trivial]; omega)
              rw [List.length_set, HTl.out trivial, HZ.out trivial] at D2
              rw [List.length_set, HTl.out trivial, HZ2.out trivial] at D3
              clear D1 hb9
              go_wp2_with fail
              refine D2.mono ?_
              rintro e w10 ⟨rfl, hw10⟩
              subst w10
              clear D2
              go_wp2_with fail
              refine D3.mono ?_
              rintro e w10 ⟨rfl, hw10⟩
              subst w10
              clear D3
              go_wp2
              go_ret
              exact ⟨rfl, HB9.out⟩
            · go_wp2_with fail
              generalize w7.setCell ⟨gu, kk, none⟩ (.int .u8 (z.toNat : Int)) = w8 at *
              have D1 := HCK.out w8 (some ⟨gu, 0, none⟩) cu (TG.set kk z) HB8.out HU8.out (by rw [List.length_set, HTl.out trivial]; omega)
              rw [List.length_set, HTl.out trivial, HZ.out trivial] at D1
              refine D1.mono ?_
              rintro e w9 ⟨rfl, hb9⟩
              have HB9 : Hid (Below w.heap.size w w9) := HB8.out.trans (hb9.mono HB8.out.size)
              have D2 := equal_any a2 (some ⟨gu, 0, none⟩) S cu TG (TG.set kk z) w9 (HR8.out.below hb9 (Nat.le_refl _)) (HU8.out.below hb9 (Nat.le_refl _)) (by rw [HTl.out trivial]; omega) (by rw [List.length_set, HTl.out trivial]; omega)
              have D3 := equal_any (some ⟨gu, 0, none⟩) a2 cu S (TG.set kk z) TG w9 (HU8.out.below hb9 (Nat.le_refl _)) (HR8.out.below hb9 (Nat.le_refl _)) (by rw [List.length_set, HTl.out trivial]; omega) (by rw [HTl.out trivial]; omega)
              rw [List.length_set, HTl.out trivial, HZ.out trivial] at D2
              rw [List.length_set, HTl.out trivial, HZ2.out trivial] at D3
              clear D1 hb9
              go_wp2_with fail
              refine D2.mono ?_
              rintro e w10 ⟨rfl, hw10⟩
              subst w10
              clear D2
              go_wp2_with fail
              refine D3.mono ?_
              rintro e w10 ⟨rfl, hw10⟩
              subst w10
              clear D3
              go_wp2
              go_ret
              exact ⟨rfl, HB9.out⟩

    · have hsl := fun W => slice_high a2 S S mm W (by omega)
      have HTk : Hid (True → (TG.take mm).length = mm) := fun _ => by rw [List.length_take, HTl.out trivial]; omega
      have hd1 : decide (TG = TG.take mm) = false := by rw [decide_eq_false_iff_not]; intro e; have := congrArg List.length e; rw [HTk.out trivial, HTl.out trivial] at this; omega
      have hd2 : decide (TG.take mm = TG) = false := by rw [decide_eq_false_iff_not]; intro e; have := congrArg List.length e; rw [HTk.out trivial, HTl.out trivial] at this; omega
      have E1 := HCK.out w3 a2 S (TG.take mm) HB3.out (rd_take HR3.out mm) (by rw [HTk.out trivial]; omega)
      rw [HTk.out trivial, hd1] at E1
      go_wp2_with fail
      refine E1.mono ?_
      rintro e w4 ⟨rfl, hb4⟩
      have HB4 : Hid (Below w.heap.size w w4) := HB3.out.trans (hb4.mono HB3.out.size)
      have HRTG : Hid (Rd w4 a2 TG) := HR3.out.below hb4 (Nat.le_refl _)
      have E2 := equal_any a2 a2 S S TG (TG.take mm) w4 HRTG.out (rd_take HRTG.out mm) (by rw [HTl.out trivial]; omega) (by rw [HTk.out trivial]; omega)
      have E3 := equal_any a2 a2 S S (TG.take mm) TG w4 (rd_take HRTG.out mm) HRTG.out (by rw [HTk.out trivial]; omega) (by rw [HTl.out trivial]; omega)
      rw [HTk.out trivial, HTl.out trivial, hd1] at E2
      rw [HTk.out trivial, HTl.out trivial, hd2] at E3
      clear E1 hb4 HB3 HR3 hd1 hd2 HTk
      go_wp2_with fail
      refine E2.mono ?_
      rintro e w5 ⟨rfl, hw5⟩
      subst w5
      clear E2
      go_wp2_with fail
      refine E3.mono ?_
      rintro e w5 ⟨rfl, hw5⟩
      subst w5
      clear E3 hsl
      have HO0 : Hid (w4.ownsRow w4.heap.size 5 1 (.slice none 0 0) (0 + 0) (([] ++ TG.take 0 : List UInt8).map B)) := by
        show World.ownsRow _ _ _ _ _ _ _
        exact World.ownsRow_nil _ _ _ _
      have HB0 : Hid (Below w4.heap.size w4 w4) := Below.refl _ _
      go_wp2
      go_loopw [15, 16] (fun s sk ws => ∃ k : Nat, sk = .int .i64 (k : Int) ∧ k ≤ S ∧ Hid (ws.ownsRow w4.heap.size 5 1 s (0 + k) (([] ++ (TG).take k).map B)) ∧ Hid (Below w4.heap.size w4 ws)) (fun _ s _ => S - (intOf s).toNat)
      case atStart => exact ⟨0, rfl, by omega, HO0, HB0⟩
      case round =>
        clear HO0 HB0
        obtain ⟨k, rfl, hk, hown, hbel⟩ := hrel
        by_cases hlt : k < S
        · have hs2 : w4.heap.size ≤ wr.heap.size := by have := hbel.out.size; omega
          have hr2 := HRTG.out.below hbel.out (Nat.le_refl _)
          rcases hr2 with hr2 | ⟨b, o, rfl, hb, hc⟩
          · (have h0 := HTl.out trivial); rw [hr2] at h0; simp at h0; omega
          have g1 := hc k (by rw [HTl.out trivial]; exact hlt)
          unfold B at g1
          have HT8 : Hid (True → (TG).take (k + 1) = (TG).take k ++ [TG.getD k 0]) := fun _ => take_getD TG k (by rw [HTl.out trivial]; exact hlt)
          clear hc
          generalize TG.getD k 0 = y at *
          go_wp2_with (at_builtin; refine append_rd rfl (.tmp 82) (.tmp 87) rfl w4.heap.size i0 hi hz0 hz1 hz2 _ (0 + k) ([] ++ (TG).take k) rfl (hown.out.alloc _) (some ⟨wr.heap.size, 0, none⟩) 1 1 [y] rfl rfl (fun e => by cases e) (.inr ⟨wr.heap.size, 0, rfl, by simp, fun j hj => by (have : j = 0 := by simpa using hj); subst this; simp [B]⟩) (by omega) (by simp; omega) ?_; intro v5 w5 hown5 hgrow5)
          have HO5 : Hid (w5.ownsRow w4.heap.size 5 1 v5 (0 + (k + 1)) (([] ++ (TG).take (k + 1)).map B)) := by
            rw [HT8.out trivial, ← List.append_assoc]
            exact hown5
          have HB5 : Hid (Below w4.heap.size w4 w5) := hbel.out.trans ((((alloc_below wr _).mono hs2)).grown hgrow5 (by rw [alloc_size]; omega) (own_block hown.out))
          clear hown5 hgrow5
          go_wp2
          exact ⟨⟨k + 1, by go_num, by omega, HO5, HB5⟩, by simp [intOf]; omega⟩
        · obtain rfl : S = k := by omega
          have h1 := hown.out
          rw [List.take_of_length_le (by rw [HTl.out trivial]; exact Nat.le_refl _), Nat.zero_add, List.nil_append] at h1
          have hs9 := hbel.out.size
          obtain ⟨v', w6, hrun, hown6, hgr6, _, hkeep⟩ := append_keep (wr.alloc (.cells #[.int .u8 (x.toNat : Int)] 5)) 23 5 23 i0 (.int .u8 0) 1 Tryd.underlying23 hi hz0 hz1 hz2 rfl u15 S (TG.map B) ((own_base0 h1 (Nat.zero_le _)).alloc _) ⟨wr.heap.size, 0, none⟩ (.int .u8 (x.toNat : Int)) (by rw [World.cell?_alloc_at _ _ _ _ rfl]; rfl) rfl (by omega) (by unfold maxLen; omega)
          have hu6 := hkeep u15 S (TG.map B) (Nat.le_refl _) rfl ((own_base0 h1 (Nat.zero_le _)).alloc _)
          have hub := own_block h1
          have HB6w : Hid (Below w4.heap.size w4 w6) := hbel.out.trans ((((alloc_below wr _).mono hs9)).grown hgr6 (by rw [alloc_size]; omega) hub)
          have HB6 : Hid (Below w.heap.size w w6) := HB4.out.trans (HB6w.out.mono HB4.out.size)
          have HR6 : Hid (Rd w6 a2 TG) := HRTG.out.below HB6w.out (Nat.le_refl _)
          obtain ⟨gu, cu, rest, rfl, hgu, hu6b⟩ : ∃ gu cu rest, u15 = .slice (some ⟨gu, 0, none⟩) S cu ∧ w4.heap.size ≤ gu ∧ Bl 5 w6 gu (TG.map B ++ rest) := by
            rcases hu6.2 with ⟨e0, hn0⟩ | ⟨g, cap, cur, e0, _, hh, hn, hm, hsz, ht⟩
            · omega
            · refine ⟨g, cap, cur.toList.drop S, e0, hub g (by rw [e0]; rfl), ?_⟩
              rw [Nat.mul_one] at ht
              rw [← ht, List.take_append_drop]
              unfold Bl
              rw [hh]
          have HU6 : Hid (Bl 5 w6 gu (TG.map B ++ rest)) := hu6b
          obtain ⟨al, cl, rfl, hnl, hcl, hml, _, hrl, _⟩ := own_rd (l := TG ++ [x]) (show w6.ownsRow 0 5 1 v' (S + 1) ((TG ++ [x]).map B) from by rw [List.map_append]; exact hown6)
          have D0 := HCK.out w6 al cl (TG ++ [x]) HB6.out hrl (by rw [← hnl]; omega)
          rw [← hnl, show decide (TG = TG ++ [x]) = false from by rw [decide_eq_false_iff_not]; intro e; have := congrArg List.length e; simp at this] at D0
          have HOff : Hid (Off a2 TG gu) := HRTG.out.off gu hgu
          have hgw : w.heap.size ≤ gu := by have := HB4.out.size; omega
          clear h1 hown hown6 hgr6 hkeep hu6 hub hu6b hrl hml hcl hnl HRTG hbel HB6w
          go_wp2_with (at_builtin; refine wpList_append_run rfl (.tmp 89) (.tmp 91) 23 rfl _ _ _ w6 rfl rfl hrun ?_)
          clear hrun
          refine D0.mono ?_
          rintro e w7 ⟨rfl, hb7⟩
          have HB7 : Hid (Below w.heap.size w w7) := HB6.out.trans (hb7.mono HB6.out.size)
          have HR7 : Hid (Rd w7 a2 TG) := HR6.out.below hb7 (Nat.le_refl _)
          have HU7 : Hid (Bl 5 w7 gu (TG.map B ++ rest)) := HU6.out.below hb7 HU6.out.lt
          clear D0 hb7 HB6 HR6 HU6
          obtain ⟨t2, ht2⟩ : ∃ t, Int.tmod place (S : Int) = t := ⟨_, rfl⟩
          have hcase2 := tmod_case place S (by omega) t2 ht2
          rcases hcase2 with ⟨kk, rfl, hkk⟩ | ⟨kk, ht0, hsum2, hkk⟩
          · skip
            have gf := HU7.out.frozen kk
            have gc : w7.cell? ⟨gu, kk, none⟩ = some (.int .u8 ((TG.getD kk 0).toNat : Int)) := by
              rw [HU7.out.cell kk (by rw [List.length_append, List.length_map, HTl.out trivial]; omega), List.getElem_append_left (by rw [List.length_map, HTl.out trivial]; omega), List.getElem_map, List.getD_eq_getElem?_getD, List.getElem?_eq_getElem (by rw [HTl.out trivial]; omega)]
              rfl
            have hxz := xorB (TG.getD kk 0) x
            obtain ⟨z, hz⟩ : ∃ z, TG.getD kk 0 ^^^ x = z := ⟨_, rfl⟩
            obtain ⟨bb, hbb⟩ : ∃ bb, decide (x = 0) = bb := ⟨_, rfl⟩
            have HZ : Hid (True → decide (TG = TG.set kk z) = bb) := fun _ => by rw [← hbb, ← hz]; exact set_xor TG kk x (by rw [HTl.out trivial]; omega)
            have HZ2 : Hid (True → decide (TG.set kk z = TG) = bb) := fun _ => by rw [← HZ.out trivial]; exact decide_eq_decide.2 ⟨fun h => h.symm, fun h => h.symm⟩
            have hx0 : ((x.toNat : Int) == 0) = bb := by rw [← hbb]; exact byte_zero x
            rw [hz] at hxz
            clear hz hbb
            generalize TG.getD kk 0 = y at *
            have hS1 := HU7.out.set kk (B z)
            have HU8 : Hid (Rd (w7.setCell ⟨gu, kk, none⟩ (B z)) (some ⟨gu, 0, none⟩) (TG.set kk z)) := by
              rw [List.set_append_left _ _ (by rw [List.length_map, HTl.out trivial]; omega), ← List.map_set] at hS1
              exact bl_head hS1
            have HB78 : Hid (But w7 (w7.setCell ⟨gu, kk, none⟩ (B z)) gu) := (But.refl _ _).set _ _
            have HB8 : Hid (Below w.heap.size w (w7.setCell ⟨gu, kk, none⟩ (B z))) := HB7.out.trans (HB78.out.below HB7.out.size (by omega))
            have HR8 : Hid (Rd (w7.setCell ⟨gu, kk, none⟩ (B z)) a2 TG) := HR7.out.but HB78.out HOff.out
            clear hS1 HB78 HU7 HB7 HR7
            unfold B at HU8 HB8 HR8
            cases bb
            · go_wp2_with fail
              generalize w7.setCell ⟨gu, kk, none⟩ (.int .u8 (z.toNat : Int)) = w8 at *
              have D1 := HCK.out w8 (some ⟨gu, 0, none⟩) cu (TG.set kk z) HB8.out HU8.out (by rw [List.length_set, HTl.out trivial]; omega)
              rw [List.length_set, HTl.out trivial, HZ.out trivial] at D1
              refine D1.mono ?_
              rintro e w9 ⟨rfl, hb9⟩
              have HB9 : Hid (Below w.heap.size w w9) := HB8.out.trans (hb9.mono HB8.out.size)
              have D2 := equal_any a2 (some ⟨gu, 0, none⟩) S cu TG (TG.set kk z) w9 (HR8.out.below hb9 (Nat.le_refl _)) (HU8.out.below hb9 (Nat.le_refl _)) (by rw [HTl.out trivial]; omega) (by rw [List.length_set, HTl.out trivial]; omega)
              have D3 := equal_any (some ⟨gu, 0, none⟩) a2 cu S (TG.set kk z) TG w9 (HU8.out.below hb9 (Nat.le_refl _)) (HR8.out.below hb9 (Nat.le_refl _)) (by rw [List.length_set, HTl.out trivial]; omega) (by rw [HTl.out trivial]; omega)
              rw [List.length_set, HTl.out trivial, HZ.out trivial] at D2
              rw [List.length_set, HTl.out trivial, HZ2.out trivial] at D3
              clear D1 hb9
              go_wp2_with fail
              refine D2.mono ?_
              rintro e w10 ⟨rfl, hw10⟩
              subst w10
              clear D2
              go_wp2_with fail
              refine D3.mono ?_
              rintro e w10 ⟨rfl, hw10⟩
              subst w10
              clear D3
              go_wp2
              go_ret
              exact ⟨rfl, HB9.out⟩
            · go_wp2_with fail
              generalize w7.setCell ⟨gu, kk, none⟩ (.int .u8 (z.toNat : Int)) = w8 at *
              have D1 := HCK.out w8 (some ⟨gu, 0, none⟩) cu (TG.set kk z) HB8.out HU8.out (by rw [List.length_set, HTl.out trivial]; omega)
              rw [List.length_set, HTl.out trivial, HZ.out trivial] at D1
              refine D1.mono ?_
              rintro e w9 ⟨rfl, hb9⟩
              have HB9 : Hid (Below w.heap.size w w9) := HB8.out.trans (hb9.mono HB8.out.size)
              have D2 := equal_any a2 (some ⟨gu, 0, none⟩) S cu TG (TG.set kk z) w9 (HR8.out.below hb9 (Nat.le_refl _)) (HU8.out.below hb9 (Nat.le_refl _)) (by rw [HTl.out trivial]; omega) (by rw [List.length_set, HTl.out trivial]; omega)
              have D3 := equal_any (some ⟨gu, 0, none⟩) a2 cu S (TG.set kk z) TG w9 (HU8.out.below hb9 (Nat.le_refl _)) (HR8.out.below hb9 (Nat.le_refl _)) (by rw [List.length_set, HTl.out trivial]; omega) (by rw [HTl.out trivial]; omega)
              rw [List.length_set, HTl.out trivial, HZ.out trivial] at D2
              rw [List.length_set, HTl.out trivial, HZ2.out trivial] at D3
              clear D1 hb9
              go_wp2_with fail
              refine D2.mono ?_
              rintro e w10 ⟨rfl, hw10⟩
              subst w10
              clear D2
              go_wp2_with fail
              refine D3.mono ?_
              rintro e w10 ⟨rfl, hw10⟩
              subst w10
              clear D3
              go_wp2
              go_ret
              exact ⟨rfl, HB9.out⟩
          · skip
            have gf := HU7.out.frozen kk
            have gc : w7.cell? ⟨gu, kk, none⟩ = some (.int .u8 ((TG.getD kk 0).toNat : Int)) := by
              rw [HU7.out.cell kk (by rw [List.length_append, List.length_map, HTl.out trivial]; omega), List.getElem_append_left (by rw [List.length_map, HTl.out trivial]; omega), List.getElem_map, List.getD_eq_getElem?_getD, List.getElem?_eq_getElem (by rw [HTl.out trivial]; omega)]
              rfl
            have hxz := xorB (TG.getD kk 0) x
            obtain ⟨z, hz⟩ : ∃ z, TG.getD kk 0 ^^^ x = z := ⟨_, rfl⟩
            obtain ⟨bb, hbb⟩ : ∃ bb, decide (x = 0) = bb := ⟨_, rfl⟩
            have HZ : Hid (True → decide (TG = TG.set kk z) = bb) := fun _ => by rw [← hbb, ← hz]; exact set_xor TG kk x (by rw [HTl.out trivial]; omega)
            have HZ2 : Hid (True → decide (TG.set kk z = TG) = bb) := fun _ => by rw [← HZ.out trivial]; exact decide_eq_decide.2 ⟨fun h => h.symm, fun h => h.symm⟩
            have hx0 : ((x.toNat : Int) == 0) = bb := by rw [← hbb]; exact byte_zero x
            rw [hz] at hxz
            clear hz hbb
            generalize TG.getD kk 0 = y at *
            have hS1 := HU7.out.set kk (B z)
            have HU8 : Hid (Rd (w7.setCell ⟨gu, kk, none⟩ (B z)) (some ⟨gu, 0, none⟩) (TG.set kk z)) := by
              rw [List.set_append_left _ _ (by rw [List.length_map, HTl.out trivial]; omega), ← List.map_set] at hS1
              exact bl_head hS1
            have HB78 : Hid (But w7 (w7.setCell ⟨gu, kk, none⟩ (B z)) gu) := (But.refl _ _).set _ _
            have HB8 : Hid (Below w.heap.size w (w7.setCell ⟨gu, kk, none⟩ (B z))) := HB7.out.trans (HB78.out.below HB7.out.size (by omega))
            have HR8 : Hid (Rd (w7.setCell ⟨gu, kk, none⟩ (B z)) a2 TG) := HR7.out.but HB78.out HOff.out
            clear hS1 HB78 HU7 HB7 HR7
            unfold B at HU8 HB8 HR8
            cases bb
            · go_wp2_with fail
              generalize w7.setCell ⟨gu, kk, none⟩ (.int .u8 (z.toNat : Int)) = w8 at *
              have D1 := HCK.out w8 (some ⟨gu, 0, none⟩) cu (TG.set kk z) HB8.out HU8.out (by rw [List.length_set, HTl.out trivial]; omega)
              rw [List.length_set, HTl.out trivial, HZ.out trivial] at D1
              refine D1.mono ?_
              rintro e w9 ⟨rfl, hb9⟩
              have HB9 : Hid (Below w.heap.size w w9) := HB8.out.trans (hb9.mono HB8.out.size)
              have D2 := equal_any a2 (some ⟨gu, 0, none⟩) S cu TG (TG.set kk z) w9 (HR8.out.below hb9 (Nat.le_refl _)) (HU8.out.below hb9 (Nat.le_refl _)) (by rw [HTl.out trivial]; omega) (by rw [List.length_set, HTl.out trivial]; omega)
              have D3 := equal_any (some ⟨gu, 0, none⟩) a2 cu S (TG.set kk z) TG w9 (HU8.out.below hb9 (Nat.le_refl _)) (HR8.out.below hb9 (Nat.le_refl _)) (by rw [List.length_set, HTl.out trivial]; omega) (by rw [HTl.out trivial]; omega)
              rw [List.length_set, HTl.out trivial, HZ.out trivial] at D2
              rw [List.length_set, HTl.out trivial, HZ2.out trivial] at D3
              clear D1 hb9
              go_wp2_with fail
              refine D2.mono ?_
              rintro e w10 ⟨rfl, hw10⟩
              subst w10
              clear D2
              go_wp2_with fail
              refine D3.mono ?_
              rintro e w10 ⟨rfl, hw10⟩
              subst w10
              clear D3
              go_wp2
              go_ret
              exact ⟨rfl, HB9.out⟩
            · go_wp2_with fail
              generalize w7.setCell ⟨gu, kk, none⟩ (.int .u8 (z.toNat : Int)) = w8 at *
              have D1 := HCK.out w8 (some ⟨gu, 0, none⟩) cu (TG.set kk z) HB8.out HU8.out (by rw [List.length_set, HTl.out trivial]; omega)
              rw [List.length_set, HTl.out trivial, HZ.out trivial] at D1
              refine D1.mono ?_
              rintro e w9 ⟨rfl, hb9⟩
              have HB9 : Hid (Below w.heap.size w w9) := HB8.out.trans (hb9.mono HB8.out.size)
              have D2 := equal_any a2 (some ⟨gu, 0, none⟩) S cu TG (TG.set kk z) w9 (HR8.out.below hb9 (Nat.le_refl _)) (HU8.out.below hb9 (Nat.le_refl _)) (by rw [HTl.out trivial]; omega) (by rw [List.length_set, HTl.out trivial]; omega)
              have D3 := equal_any (some ⟨gu, 0, none⟩) a2 cu S (TG.set kk z) TG w9 (HU8.out.below hb9 (Nat.le_refl _)) (HR8.out.below hb9 (Nat.le_refl _)) (by rw [List.length_set, HTl.out trivial]; omega) (by rw [HTl.out trivial]; omega)
              rw [List.length_set, HTl.out trivial, HZ.out trivial] at D2
              rw [List.length_set, HTl.out trivial, HZ2.out trivial] at D3
              clear D1 hb9
              go_wp2_with fail
              refine D2.mono ?_
              rintro e w10 ⟨rfl, hw10⟩
              subst w10
              clear D2
              go_wp2_with fail
              refine D3.mono ?_
              rintro e w10 ⟨rfl, hw10⟩
              subst w10
              clear D3
              go_wp2
              go_ret
              exact ⟨rfl, HB9.out⟩


end Go.Proofs.YtoclnmjljilfdaaDoor
