import Derived.Test.YtoclnmjljilfdaaDoorHmU
namespace Go.Proofs.YtoclnmjljilfdaaDoor
open Go.RowKit

theorem rcheck' (h : Int) (ak ad at' : Option Addr) (ck cd ct : Nat) (key data tag : List UInt8) (w : World) (R : Rt w) (hk : Rd w ak key) (hd : Rd w ad data) (ht : Rd w at' tag) (hak : ak = none → key.length = 0 ∧ ck = 0) (hkl : key.length ≤ 10000000) (hdl : data.length ≤ 10000000) :
    Calls Tryd.prog 44 #[.int .i64 h, .slice ak key.length ck, .slice ad data.length cd, .slice at' tag.length ct] w fun e w' => e = .returned (.bool (decide (0 < siz h ∧ tagF h key data = tag))) ∧ Below w.heap.size w w' := by
  refine (rcheck_any h ak ad at' ck cd ct key data tag w R hk hd ht hak hkl hdl).mono ?_
  rintro e w' ⟨rfl, hb⟩
  refine ⟨?_, hb⟩
  congr 2
  have hz := blk_siz h
  have e : (0 < blk h) ↔ (0 < siz h) := by omega
  rw [Bool.decide_and, decide_eq_decide.2 e]

theorem copied' (g cap n : Nat) (l : List UInt8) (w : World) (hr : Rd w (some ⟨g, 0, none⟩) l) (hn : l.length = n) (hl : n ≤ 1000000000) :
    Calls Tryd.prog 43 #[.slice (some ⟨g, 0, none⟩) n cap] w fun e w' => ∃ a c, e = .returned (.slice a n c) ∧ (a = none → l.length = 0 ∧ c = 0) ∧ Rd w' a l ∧ Below w.heap.size w w' := by
  subst hn
  refine (copied5_any (some ⟨g, 0, none⟩) cap w.heap.size l w (Nat.le_refl _) (Nat.le_refl _) hr hl).mono ?_
  rintro e w'' ⟨v, rfl, ho, hb⟩
  obtain ⟨a, c, rfl, hl, _, _, hn, hr, _⟩ := own_rd ho
  exact ⟨a, c, rfl, hn, hr, hb⟩

theorem xor1_ne (x : UInt8) : x ≠ x ^^^ 1 := by
  intro e
  have h := (xor_zero_byte x (x ^^^ 1)).2 e
  rw [← UInt8.xor_assoc, UInt8.xor_self, UInt8.zero_xor] at h
  exact absurd h (by decide)
theorem xor1_back (x : UInt8) : (x ^^^ 1) ^^^ 1 = x := by rw [UInt8.xor_assoc, UInt8.xor_self, UInt8.xor_zero]
theorem take_set (T : List UInt8) (S k : Nat) (hS : T.length = S) (hk : k < S) : ((T.take k ++ List.replicate (S - k) 0).map B).set k (B (T.getD k 0)) = (T.take (k + 1) ++ List.replicate (S - (k + 1)) 0).map B := by
  rw [← List.map_set]
  congr 1
  rw [List.set_append_right _ _ (by simp; omega), List.length_take, Nat.min_eq_left (by omega), Nat.sub_self, show S - k = (S - (k + 1)) + 1 by omega, List.replicate_succ, List.set_cons_zero, take_getD T k (by omega), List.append_assoc]
  rfl

set_option maxRecDepth 100000 in
set_option maxHeartbeats 8000000 in
theorem follows_pos (h : Int) (gk gd capk capd cw nk nd S : Nat) (aw : Option Addr) (k1 d1 : List UInt8) (rk rd : List Value) (w0 w : World) (hs : HSt w0 k1 d1 gk gd rk rd w) (T : Tb w0) (R : Rt w0) (hgd : w0.heap.size ≤ gd) (hne : gk < gd)
    (hnk : k1.length = nk) (hnd : d1.length = nd) (hck : nk ≤ capk) (hck2 : capk ≤ 9223372036854775807) (hcd : nd ≤ capd) (hcd2 : capd ≤ 9223372036854775807) (hkl : nk ≤ 1048576) (hdl : nd ≤ 1048576) (hw : Rd w aw (tagF h k1 d1)) (hS : siz h = S) (hS0 : 0 < S) :
    Calls Tryd.prog 46 #[.int .i64 h, .slice (some ⟨gk, 0, none⟩) nk capk, .slice (some ⟨gd, 0, none⟩) nd capd, .slice aw S cw] w fun e w' => e = .returned (.bool true) ∧ Below w0.heap.size w0 w' := by
  have hSl : S ≤ 64 := by have := siz_le h; omega
  have HS0 : Hid (HSt w0 k1 d1 gk gd rk rd w) := hs
  have HT : Hid (Tb w0) := T
  have HRt : Hid (Rt w0) := R
  have HW : Hid (Rd w aw (tagF h k1 d1)) := hw
  have HC : Hid (∀ (dd tag : List UInt8) (w' : World) (g : Nat), HSt w0 k1 dd gk gd rk rd w' → dd.length = nd → Rd w' (some ⟨g, 0, none⟩) tag → tag.length = S → Calls Tryd.prog 34 #[.int .i64 h, .slice (some ⟨gk, 0, none⟩) nk capk, .slice (some ⟨gd, 0, none⟩) nd capd, .slice (some ⟨g, 0, none⟩) S S] w' fun e w'' => e = .returned (.bool (decide (tagF h k1 dd = tag))) ∧ Below w'.heap.size w' w'') := fun dd tag w' g hs hl hr ht => by
    have C := check_any h (some ⟨gk, 0, none⟩) (some ⟨gd, 0, none⟩) (some ⟨g, 0, none⟩) capk capd S k1 dd tag w' (HT.out.below hs.bel) hs.kr hs.dr hr (by omega) hck2 (by omega) (by omega) hcd2 (by omega) (by omega)
    rw [hnk, hl, ht] at C
    have e : decide (0 < siz h ∧ tagF h k1 dd = tag) = decide (tagF h k1 dd = tag) := decide_eq_decide.2 ⟨fun h => h.2, fun hh => ⟨by omega, hh⟩⟩
    rw [e] at C
    exact C
  have HRc : Hid (∀ (dd tag : List UInt8) (w' : World) (a1 a2 a3 : Option Addr) (c1 c2 c3 : Nat), Below w0.heap.size w0 w' → dd.length = nd → tag.length = S → Rd w' a1 k1 → (a1 = none → k1.length = 0 ∧ c1 = 0) → Rd w' a2 dd → Rd w' a3 tag → Calls Tryd.prog 44 #[.int .i64 h, .slice a1 nk c1, .slice a2 nd c2, .slice a3 S c3] w' fun e w'' => e = .returned (.bool (decide (tagF h k1 dd = tag))) ∧ Below w'.heap.size w' w'') := fun dd tag w' a1 a2 a3 c1 c2 c3 hb hl ht h1 hn1 h2 h3 => by
    have C := rcheck' h a1 a2 a3 c1 c2 c3 k1 dd tag w' (HRt.out.below hb (Nat.le_refl _)) h1 h2 h3 hn1 (by omega) (by omega)
    rw [hnk, hl, ht] at C
    have e : decide (0 < siz h ∧ tagF h k1 dd = tag) = decide (tagF h k1 dd = tag) := decide_eq_decide.2 ⟨fun h => h.2, fun hh => ⟨by omega, hh⟩⟩
    rw [e] at C
    exact C
  have hTl : (tagF h k1 d1).length = S := by rw [tagF_length]; exact hS
  obtain ⟨wm, hmk, hcm, hbm⟩ := made w S (by omega)
  have hSm : HSt w0 k1 d1 gk gd rk rd wm := hs.below hbm (Nat.le_refl _)
  have hgw : w.heap.size ≤ wm.heap.size := hbm.size
  have hgdl : gd < w.heap.size := hs.D.lt
  have HSm : Hid (HSt w0 k1 d1 gk gd rk rd wm) := hSm
  have HCm : Hid (Bl 5 wm w.heap.size ((List.replicate S (0 : UInt8)).map B)) := hcm
  have HWm : Hid (Rd wm aw (tagF h k1 d1)) := hw.below hbm (Nat.le_refl _)
  have HOf : Hid (Off aw (tagF h k1 d1) w.heap.size) := hw.off _ (Nat.le_refl _)
  have C1 := HC.out d1 (List.replicate S 0) wm w.heap.size hSm hnd (bl_rd hcm) (by simp)
  have HTl : Hid (True → (tagF h k1 d1).length = S) := fun _ => hTl
  have Hnd : Hid (True → d1.length = nd) := fun _ => hnd
  have Hnk : Hid (True → k1.length = nk) := fun _ => hnk
  have hgk0 : gk ≠ w.heap.size := by omega
  have hgd1 : gd ≠ w.heap.size := by omega
  have hg0 : w0.heap.size ≤ w.heap.size := hs.bel.size
  clear hs T R hw hcm hbm hSm hTl hnd hnk hS
  obtain ⟨bq, hbq⟩ : ∃ b, decide (tagF h k1 d1 = List.replicate S 0) = b := ⟨_, rfl⟩
  rw [hbq] at C1
  have Hbq : Hid (True → decide (List.replicate S 0 = tagF h k1 d1) = bq) := fun _ => by rw [← hbq]; exact decide_eq_decide.2 eq_comm
  clear hbq
  generalize hT1 : tagF h k1 d1 = T1 at *
  have HT1 : Hid (True → tagF h k1 d1 = T1) := fun _ => hT1
  clear hT1
  generalize hgg : w.heap.size = g at *
  go_enter Tryd.func46, Tryd.ntmps46
  go_wp2_with fail
  refine C1.mono ?_
  rintro e w1 ⟨rfl, hb1⟩
  have hgm : g < wm.heap.size := HCm.out.lt
  have HS1 : Hid (HSt w0 k1 d1 gk gd rk rd w1) := HSm.out.below hb1 (Nat.le_refl _)
  have HC1 : Hid (Bl 5 w1 g ((T1.take 0 ++ List.replicate (S - 0) 0).map B)) := by
    rw [List.take_zero, List.nil_append, Nat.sub_zero]
    exact HCm.out.below hb1 hgm
  have HW1 : Hid (Rd w1 aw T1) := HWm.out.below hb1 (Nat.le_refl _)
  have C2 := same5_any (some ⟨g, 0, none⟩) aw S cw (List.replicate S 0) T1 w1 (bl_rd (HCm.out.below hb1 hgm)) HW1.out (by simp; omega)
  rw [List.length_replicate, HTl.out trivial, Hbq.out trivial] at C2
  have hS0I : decide ((0 : Int) < (S : Int)) = true := decide_eq_true (by omega)
  clear C1 hb1 hmk HSm HCm HWm
  go_wp2_with fail
  refine C2.mono ?_
  rintro e w2 ⟨rfl, q, hq⟩
  have HS2 : Hid (HSt w0 k1 d1 gk gd rk rd w2) := by rw [hq]; exact HS1.out.drewN q
  have HC2 : Hid (Bl 5 w2 g ((T1.take 0 ++ List.replicate (S - 0) 0).map B)) := by rw [hq]; exact HC1.out
  have HW2 : Hid (Rd w2 aw T1) := by rw [hq]; exact HW1.out
  clear C2 hq HS1 HC1 HW1
  have hbb : (bq != bq) = false := by simp
  go_wp2
  go_loopw [11] (fun s ws => ∃ k : Nat, s = .int .i64 (k : Int) ∧ k ≤ S ∧ Hid (Bl 5 ws g ((T1.take k ++ List.replicate (S - k) 0).map B)) ∧ Hid (But w2 ws g)) (fun s _ => S - (intOf s).toNat)
  case atStart => exact ⟨0, rfl, by omega, HC2, But.refl _ _⟩
  case round =>
    clear HC2
    obtain ⟨k, rfl, hk, hcl, hbut⟩ := hrel
    by_cases hlt : k < S
    · have gf := hcl.out.frozen k
      obtain ⟨old, gc⟩ : ∃ v, wr.cell? ⟨g, k, none⟩ = some v := ⟨_, hcl.out.cell k (by have := HTl.out trivial; simp; omega)⟩
      have hr2 := HW2.out.but hbut.out HOf.out
      rcases hr2 with hr2 | ⟨b, o, rfl, hb, hc⟩
      · have := HTl.out trivial; rw [hr2] at this; simp at this; omega
      have g1 := hc k (by rw [HTl.out trivial]; exact hlt)
      unfold B at g1
      have Hs : Hid (True → ((T1.take k ++ List.replicate (S - k) 0).map B).set k (B (T1.getD k 0)) = (T1.take (k + 1) ++ List.replicate (S - (k + 1)) 0).map B) := fun _ => take_set T1 S k (HTl.out trivial) hlt
      clear hc
      generalize T1.getD k 0 = x at *
      go_wp2
      refine ⟨⟨k + 1, by go_num, by omega, ?_, hbut.out.set _ _⟩, by simp [intOf]; omega⟩
      have h1 := hcl.out.set k (B x)
      rw [Hs.out trivial] at h1
      exact h1
    · obtain rfl : k = S := by omega
      have HC3 : Hid (Bl 5 wr g (T1.map B)) := by
        have h1 := hcl.out
        rw [Nat.sub_self, List.replicate_zero, List.append_nil, List.take_of_length_le (by rw [HTl.out trivial]; exact Nat.le_refl _)] at h1
        exact h1
      have HS3 : Hid (HSt w0 k1 d1 gk gd rk rd wr) := HS2.out.but hbut.out hg0 hgk0 hgd1
      have C3 := HC.out d1 T1 wr g HS3.out (Hnd.out trivial) (bl_rd HC3.out) (HTl.out trivial)
      rw [HT1.out trivial, decide_eq_true rfl] at C3
      clear hcl hbut HS2 HW2 HOf hk hlt
      rename World => w3
      go_wp2_with fail
      refine C3.mono ?_
      rintro e w4 ⟨rfl, hb4⟩
      have hg3 : g < w3.heap.size := HC3.out.lt
      have HS4 : Hid (HSt w0 k1 d1 gk gd rk rd w4) := HS3.out.below hb4 (Nat.le_refl _)
      have HC4 : Hid (Bl 5 w4 g (T1.map B)) := HC3.out.below hb4 hg3
      clear C3 hb4 HS3 HC3
      have hT0 : 0 < T1.length := by rw [HTl.out trivial]; exact hS0
      have gf := HC4.out.frozen 0
      have gc := HC4.out.cell 0 (by simpa using hT0)
      rw [List.getElem_map] at gc
      have hkI : ((k : Int) == 0) = false := by simp; omega
      have HT2 : Hid (True → ((T1.set 0 (T1[0] ^^^ 1)).set 0 ((T1[0] ^^^ 1) ^^^ 1)) = T1) := fun _ => by rw [xor1_back, List.set_set, List.set_getElem_self]
      have HT3 : Hid (True → decide (T1 = T1.set 0 (T1[0] ^^^ 1)) = false) := fun _ => decide_eq_false fun e => by
        have := congrArg (fun l => l[0]?) e
        simp [hT0] at this
        exact xor1_ne _ this
      have HB5 : Hid (∀ x : UInt8, Bl 5 (w4.setCell ⟨g, 0, none⟩ (B x)) g ((T1.set 0 x).map B)) := fun x => by rw [List.map_set]; exact HC4.out.set 0 (B x)
      have HU5 : Hid (∀ x : UInt8, But w4 (w4.setCell ⟨g, 0, none⟩ (B x)) g) := fun x => (But.refl _ _).set _ _
      unfold B at gc
      generalize T1[0] = x at *
      have hx1 : bits .xor .u8 (x.toNat : Int) 1 = ((x ^^^ 1).toNat : Int) := xorB x 1
      obtain ⟨y, hy⟩ : ∃ y, x ^^^ 1 = y := ⟨_, rfl⟩
      rw [hy] at hx1 HT2 HT3
      clear hy hT0
      go_wp2_with fail
      have HB6 : Hid (Bl 5 (w4.setCell ⟨g, 0, none⟩ (.int .u8 (y.toNat : Int))) g ((T1.set 0 y).map B)) := HB5.out y
      have HU6 : Hid (But w4 (w4.setCell ⟨g, 0, none⟩ (.int .u8 (y.toNat : Int))) g) := HU5.out y
      clear HB5 HU5 gf gc
      generalize w4.setCell ⟨g, 0, none⟩ (.int .u8 (y.toNat : Int)) = w5 at *
      have HS5 : Hid (HSt w0 k1 d1 gk gd rk rd w5) := HS4.out.but HU6.out hg0 hgk0 hgd1
      have C5 := HC.out d1 (T1.set 0 y) w5 g HS5.out (Hnd.out trivial) (bl_rd HB6.out) (by rw [List.length_set]; exact HTl.out trivial)
      rw [HT1.out trivial, HT3.out trivial] at C5
      clear HU6 HS4 HC4
      refine C5.mono ?_
      rintro e w6 ⟨rfl, hb6⟩
      have hg5 : g < w5.heap.size := HB6.out.lt
      have HS6 : Hid (HSt w0 k1 d1 gk gd rk rd w6) := HS5.out.below hb6 (Nat.le_refl _)
      have HB7 : Hid (Bl 5 w6 g ((T1.set 0 y).map B)) := HB6.out.below hb6 hg5
      clear C5 hb6 HS5 HB6
      have gf := HB7.out.frozen 0
      have gc : w6.cell? ⟨g, 0, none⟩ = some (B y) := by
        rw [HB7.out.cell 0 (by simp; have := HTl.out trivial; omega), List.getElem_map, List.getElem_set_self]
      have HB8 : Hid (∀ x : UInt8, Bl 5 (w6.setCell ⟨g, 0, none⟩ (B x)) g (((T1.set 0 y).set 0 x).map B)) := fun x => by rw [List.map_set (f := B) (l := T1.set 0 y)]; exact HB7.out.set 0 (B x)
      have HU8 : Hid (∀ x : UInt8, But w6 (w6.setCell ⟨g, 0, none⟩ (B x)) g) := fun x => (But.refl _ _).set _ _
      unfold B at gc
      have hx2 : bits .xor .u8 (y.toNat : Int) 1 = ((y ^^^ 1).toNat : Int) := xorB y 1
      obtain ⟨z, hz⟩ : ∃ z, y ^^^ 1 = z := ⟨_, rfl⟩
      rw [hz] at hx2 HT2
      clear hz
      go_wp2_with fail
      have HB9 : Hid (Bl 5 (w6.setCell ⟨g, 0, none⟩ (.int .u8 (z.toNat : Int))) g (T1.map B)) := by
        have h1 := HB8.out z
        rw [HT2.out trivial] at h1
        exact h1
      have HU9 : Hid (But w6 (w6.setCell ⟨g, 0, none⟩ (.int .u8 (z.toNat : Int))) g) := HU8.out z
      clear HB8 HU8 gf gc
      generalize w6.setCell ⟨g, 0, none⟩ (.int .u8 (z.toNat : Int)) = w7 at *
      have HS7 : Hid (HSt w0 k1 d1 gk gd rk rd w7) := HS6.out.but HU9.out hg0 hgk0 hgd1
      have C7 := HC.out d1 T1 w7 g HS7.out (Hnd.out trivial) (bl_rd HB9.out) (HTl.out trivial)
      rw [HT1.out trivial, decide_eq_true rfl] at C7
      clear HU9 HS6 HB7
      refine C7.mono ?_
      rintro e w8 ⟨rfl, hb8⟩
      have hg7 : g < w7.heap.size := HB9.out.lt
      have HS8 : Hid (HSt w0 k1 d1 gk gd rk rd w8) := HS7.out.below hb8 (Nat.le_refl _)
      have HBA : Hid (Bl 5 w8 g (T1.map B)) := HB9.out.below hb8 hg7
      clear C7 hb8 HS7 HB9
      have C8 := turned5_any gd capd d1 (mrk.map B ++ rd) w8 (by rw [← List.append_assoc, ← List.map_append]; exact HS8.out.D) (by rw [Hnd.out trivial]; omega)
      rw [Hnd.out trivial] at C8
      go_wp2_with fail
      refine C8.mono ?_
      rintro e w9 ⟨rfl, ⟨d2, hd2, hD2⟩, hb9⟩
      have HS9 : Hid (HSt w0 k1 d2 gk gd rk rd w9) := ⟨hb9.other HS8.out.K (by omega), by rw [List.map_append, List.append_assoc]; exact hD2, HS8.out.bel.trans (hb9.below HS8.out.bel.size hgd)⟩
      have HBB : Hid (Bl 5 w9 g (T1.map B)) := HBA.out.but hb9 (by omega)
      have Hd2 : Hid (True → d2.length = nd) := fun _ => hd2
      clear C8 hD2 hb9 hd2 HS8 HBA
      have C9 := HC.out d2 T1 w9 g HS9.out (Hd2.out trivial) (bl_rd HBB.out) (HTl.out trivial)
      obtain ⟨b9, hb9⟩ : ∃ b, decide (tagF h k1 d2 = T1) = b := ⟨_, rfl⟩
      rw [hb9] at C9
      have Hb9 : Hid (True → decide (tagF h k1 d2 = T1) = b9) := fun _ => hb9
      clear hb9
      go_wp2_with fail
      refine C9.mono ?_
      rintro e wA ⟨rfl, hbA⟩
      have hg9 : g < w9.heap.size := HBB.out.lt
      have HSA : Hid (HSt w0 k1 d2 gk gd rk rd wA) := HS9.out.below hbA (Nat.le_refl _)
      have HBC : Hid (Bl 5 wA g (T1.map B)) := HBB.out.below hbA hg9
      clear C9 hbA HS9 HBB
      go_wp2_with fail
      refine (copied' gk capk nk k1 wA HSA.out.kr (Hnk.out trivial) (by omega)).mono ?_
      rintro e wB ⟨aB, cB, rfl, hnB, hrB, hbB⟩
      have HSB : Hid (HSt w0 k1 d2 gk gd rk rd wB) := HSA.out.below hbB (Nat.le_refl _)
      have HBD : Hid (Rd wB (some ⟨g, 0, none⟩) T1) := (bl_rd HBC.out).below hbB (Nat.le_refl _)
      have HRB : Hid (Rd wB aB k1) := hrB
      have HnB : Hid (aB = none → k1.length = 0 ∧ cB = 0) := hnB
      clear hnB hrB hbB HSA HBC
      go_wp2_with fail
      refine (copied' gd capd nd d2 wB HSB.out.dr (Hd2.out trivial) (by omega)).mono ?_
      rintro e wC ⟨aC, cC, rfl, _, hrC, hbC⟩
      have HSC : Hid (HSt w0 k1 d2 gk gd rk rd wC) := HSB.out.below hbC (Nat.le_refl _)
      have HBE : Hid (Rd wC (some ⟨g, 0, none⟩) T1) := HBD.out.below hbC (Nat.le_refl _)
      have HRC1 : Hid (Rd wC aB k1) := HRB.out.below hbC (Nat.le_refl _)
      have HRC2 : Hid (Rd wC aC d2) := hrC
      clear hrC hbC HSB HBD HRB
      go_wp2_with fail
      refine (copied' g k k T1 wC HBE.out (HTl.out trivial) (by omega)).mono ?_
      rintro e wD ⟨aD, cD, rfl, _, hrD, hbD⟩
      have HSD : Hid (HSt w0 k1 d2 gk gd rk rd wD) := HSC.out.below hbD (Nat.le_refl _)
      have CA := HRc.out d2 T1 wD aB aC aD cB cC cD HSD.out.bel (Hd2.out trivial) (HTl.out trivial) (HRC1.out.below hbD (Nat.le_refl _)) HnB.out (HRC2.out.below hbD (Nat.le_refl _)) hrD
      rw [Hb9.out trivial] at CA
      clear hrD hbD HSC HBE HRC1 HRC2
      go_wp2_with fail
      refine CA.mono ?_
      rintro e wE ⟨rfl, hbE⟩
      have HBF : Hid (Below w0.heap.size w0 wE) := (HSD.out.below hbE (Nat.le_refl _)).bel
      clear CA hbE HSD
      have hbe : (b9 == b9) = true := by simp
      go_wp2
      go_ret
      exact ⟨rfl, HBF.out⟩

end Go.Proofs.YtoclnmjljilfdaaDoor
