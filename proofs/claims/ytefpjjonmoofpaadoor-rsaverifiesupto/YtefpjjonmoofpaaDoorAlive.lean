import Derived.Test.YtefpjjonmoofpaaDoorVer
import Derived.Test.YtefpjjonmoofpaaDoorRekey
import Derived.Test.YtefpjjonmoofpaaDoorSame
namespace Go.Proofs.YtefpjjonmoofpaaDoor
open Go.RowKit

theorem em_a1 (m : List UInt8) (s : Nat) (h : Int) : (emV h m s).getD 1 0 = 1 := by unfold emV; simp
theorem em_a204 (m : List UInt8) : (emV 1 m 256).getD 204 0 = 0 := by
  have e : Sha.siz 1 = 32 := rfl
  unfold emV
  rw [e, List.append_assoc, List.append_assoc, List.getD_eq_getElem?_getD, List.getElem?_append_right (by rw [List.length_append, List.length_replicate]; simp), List.length_append, List.length_replicate]
  simp

theorem lknown_any (h : Int) (w : World) : Calls Tryd.prog 11 #[.int .i64 h] w fun e w' => e = .returned (.bool (isHB h)) ∧ w' = w := by
  by_cases h1 : h = 1
  · subst h1
    go_enter Tryd.func11, Tryd.ntmps11
    go_wp2
    go_ret
    exact ⟨rfl, rfl⟩
  by_cases h2 : h = 2
  · subst h2
    go_enter Tryd.func11, Tryd.ntmps11
    go_wp2
    go_ret
    exact ⟨rfl, rfl⟩
  have d1 : (h == 1) = false := beq_eq_false_iff_ne.2 h1
  have d2 : (h == 2) = false := beq_eq_false_iff_ne.2 h2
  have E : Hid (isHB h = (h == 3)) := by
    show _ = _
    unfold isHB
    rw [Bool.eq_iff_iff, decide_eq_true_iff, beq_iff_eq]
    constructor
    · rintro (e | e | e)
      · exact absurd e h1
      · exact absurd e h2
      · exact e
    · intro e; exact .inr (.inr e)
  clear h1 h2
  go_enter Tryd.func11, Tryd.ntmps11
  go_wp2
  go_ret
  rw [E.out]
  exact ⟨rfl, rfl⟩

set_option maxRecDepth 100000 in
set_option maxHeartbeats 2000000 in
theorem alive9 (w : World) (T : Sha.Tb w) (I : Inf w) : Calls Tryd.prog 9 #[] w fun e w' => e = .returned (.bool true) ∧ Below w.heap.size w w' := by
  obtain ⟨wm, hmk0, hb0, hbel0⟩ := madeB w 256 (by omega)
  have hmk : (Instr.makeSlice 23 (.int .i64 256) (.int .i64 256)).run Tryd.prog w = .ok (.slice (some ⟨w.heap.size, 0, none⟩) 256 256) wm := hmk0
  have HB0 : Hid (Bl 5 wm w.heap.size ((ffs 0).map B)) := hb0
  have HW0 : Hid (Below w.heap.size w wm) := hbel0
  have HT : Hid (Sha.Tb w) := T
  have HI : Hid (Inf w) := I
  clear hmk0 hb0 hbel0 T I
  go_enter Tryd.func9, Tryd.ntmps9
  go_wp2
  clear hmk
  go_loopw [2] (fun s wr => ∃ k : Nat, s = .int .i64 (k : Int) ∧ k ≤ 256 ∧ Hid (Bl 5 wr w.heap.size ((ffs k).map B)) ∧ Hid (Below w.heap.size w wr)) (fun s _ => 256 - (intOf s).toNat)
  case atStart => exact ⟨0, rfl, by omega, HB0, HW0⟩
  case round =>
    clear HB0 HW0
    obtain ⟨k, rfl, hk, HB, HW⟩ := hrel
    by_cases hlt : k < 256
    · have gf := HB.out.frozen k
      obtain ⟨old, gc⟩ : ∃ v, wr.cell? ⟨w.heap.size, k, none⟩ = some v := ⟨_, HB.out.cell k (by rw [List.length_map, ffs_length k hk]; exact hlt)⟩
      have HB2 : Hid (Bl 5 (wr.setCell ⟨w.heap.size, k, none⟩ (.int .u8 255)) w.heap.size ((ffs (k + 1)).map B)) := by
        have := HB.out.set k (B 255)
        rw [ffs_set k hlt] at this
        exact this
      go_wp2
      exact ⟨⟨k + 1, by go_num, by omega, HB2, HW.out.setCell (Nat.le_refl _) _⟩, by simp [intOf]; omega⟩
    · obtain rfl : k = 256 := by omega
      have CE := encode_any 1 none 0 [] 256 wr (HT.out.below HW.out) (HI.out.below HW.out) (.inl rfl) (Nat.le_refl _) (by omega) (by simp)
      have hec : ecode 1 256 = 0 := by decide
      have hev : encV 1 [] 256 = emV 1 [] 256 := by unfold encV; rw [hec, if_pos rfl]; rfl
      rw [hec, hev] at CE
      clear hec hev hk hlt
      go_wp2_with fail
      refine CE.mono ?_
      rintro e w1 ⟨rM, rfl, hM⟩
      clear CE
      have hlen := emV_length 1 [] 256 (by decide)
      obtain ⟨gM, cM, eM, hgM⟩ : ∃ g c, rM = .slice (some ⟨g, 0, none⟩) 256 c ∧ Hid (Rd w1 (some ⟨g, 0, none⟩) (emV 1 [] 256)) := by
        have h1 := hM.own
        have h2 := h1.nb
        rcases h1.2 with ⟨_, h0⟩ | ⟨g, cap, cur, e, _⟩
        · rw [hlen] at h0; omega
        · obtain ⟨a, c, e2, _, hr⟩ := h2
          rw [e] at e2
          injection e2 with e3
          subst e3
          rw [hlen] at e
          exact ⟨g, cap, e, hr⟩
      subst eM
      have HB1 : Below w.heap.size w w1 := HW.out.trans (hM.bel.mono HW.out.size)
      have Bn1 : Bl 5 w1 w.heap.size ((ffs 256).map B) := HB.out.below hM.bel HB.out.lt
      have b2 := alloc_below w1 (.cells #[.int .u8 3] 5)
      have Bn2 := Bn1.below b2 Bn1.lt
      have C1 := key_bl w.heap.size w1.heap.size (w1.alloc (.cells #[.int .u8 3] 5)) _ [3] (ffs_length 256 (by omega)) rfl Bn2 (alloc_bl w1 (([3] : List UInt8).map B) 5)
      have b3 := alloc_below (w1.alloc (.cells #[.int .u8 3] 5)) (.cells #[.int .u8 2] 5)
      have Bn3 := Bn2.below b3 Bn2.lt
      have C2 := key_bl w.heap.size (w1.alloc (.cells #[.int .u8 3] 5)).heap.size ((w1.alloc (.cells #[.int .u8 3] 5)).alloc (.cells #[.int .u8 2] 5)) _ [2] (ffs_length 256 (by omega)) rfl Bn3 (alloc_bl _ (([2] : List UInt8).map B) 5)
      rw [ffs_full, key_r1] at C1
      rw [ffs_full, key_r2, World.size_alloc] at C2
      have HB2 := HB1.trans (b2.mono HB1.size)
      have HB3 : Hid (Below w.heap.size w ((w1.alloc (.cells #[.int .u8 3] 5)).alloc (.cells #[.int .u8 2] 5))) := HB2.trans (b3.mono HB2.size)
      have q3 := (hgM.out.below b2 (Nat.le_refl _)).below b3 (Nat.le_refl _)
      obtain ⟨g', o', e', _, hc⟩ := q3.resolve_left (fun e => by rw [e] at hlen; simp at hlen)
      cases e'
      have c1 := hc 1 (by rw [hlen]; omega)
      have c2 := hc 204 (by rw [hlen]; omega)
      rw [em_a1] at c1
      rw [em_a204] at c2
      rw [Nat.zero_add] at c1 c2
      unfold B at c1 c2
      clear hc q3 b2 b3 HB2 HB1 Bn1 Bn2 Bn3 hgM hM HB HW hlen HT HI
      go_wp2_with fail
      refine C1.mono ?_
      rintro e w' ⟨rfl, rfl⟩
      clear C1
      go_wp2_with fail
      refine C2.mono ?_
      rintro e w' ⟨rfl, rfl⟩
      clear C2
      go_wp2
      go_ret
      exact ⟨rfl, HB3.out⟩

end Go.Proofs.YtefpjjonmoofpaaDoor
