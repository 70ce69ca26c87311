import Derived.Test.YthnogdkkdekgpaaDoorPJ
namespace Go.Proofs.YthnogdkkdekgpaaDoor
open Go.RowKit

set_option maxRecDepth 100000 in
set_option maxHeartbeats 4000000 in
theorem clash_any (h : Int) (a1 a2 a3 : Option Addr) (c1 c2 c3 : Nat) (x y s : List UInt8) (w : World) (T : Sha.Tb w) (r1 : Rd w a1 x) (r2 : Rd w a2 y) (r3 : Rd w a3 s) (k1 : x.length ≤ c1) (k1' : c1 ≤ 9223372036854775807) (k2 : y.length ≤ c2) (k2' : c2 ≤ 9223372036854775807) (k3 : s.length ≤ c3) (k3' : c3 ≤ 9223372036854775807)
    (l1 : x.length ≤ 100000000) (l2 : y.length ≤ 100000000) (l3 : s.length ≤ 100000000) :
    Calls Tryd.prog 20 #[.int .i64 h, .slice a1 x.length c1, .slice a2 y.length c2, .slice a3 s.length c3] w fun e w' => e = .returned (.bool (decide (secF h x s = secF h y s))) ∧ Below w.heap.size w w' := by
  have HT : Hid (Sha.Tb w) := T
  have H1 : Hid (Rd w a1 x) := r1
  have H2 : Hid (Rd w a2 y) := r2
  have H3 : Hid (Rd w a3 s) := r3
  obtain ⟨S, HS⟩ : ∃ S, Hid (Sha.siz h = S) := ⟨_, rfl⟩
  have hs64 := siz_le64 h
  rw [HS.out] at hs64
  obtain ⟨wn, hmk8, hbn, hbn2⟩ := madeB w 8 (by omega)
  have hmk : (Instr.makeSlice 23 (.int .i64 8) (.int .i64 8)).run Tryd.prog w = .ok (.slice (some ⟨w.heap.size, 0, none⟩) 8 8) wn := hmk8
  have HZ : Hid (Rd wn (some ⟨w.heap.size, 0, none⟩) (List.replicate 8 0)) := Bl.rdb hbn
  have HBn : Hid (Below w.heap.size w wn) := hbn2
  have HSum : Hid (∀ (W : World) (a : Option Addr) (c : Nat) (l : List UInt8), Below wn.heap.size wn W → Rd w a l → l.length ≤ c → c ≤ 9223372036854775807 → l.length ≤ 100000000 → Calls Tryd.prog 14 #[.int .i64 h, .slice (some ⟨W.heap.size, 0, none⟩) 3 3] (W.alloc (.cells #[.slice (some ⟨w.heap.size, 0, none⟩) 8 8, .slice a l.length c, .slice a3 s.length c3] 23)) fun e w' => ∃ a', e = .returned (.slice a' S S) ∧ Rd w' a' (secF h l s) ∧ Below W.heap.size W w') := fun W a c l hW hr hc hc2 hl => by
    have hbW : Below w.heap.size w W := HBn.out.trans (hW.mono HBn.out.size)
    have P1 : Sha.prOk W ⟨some ⟨w.heap.size, 0, none⟩, 8, List.replicate 8 0⟩ := ⟨HZ.out.below hW (Nat.le_refl _), by simp, by simp⟩
    have P2 : Sha.prOk W ⟨a, c, l⟩ := ⟨hr.below hbW (Nat.le_refl _), hc, hc2⟩
    have P3 : Sha.prOk W ⟨a3, c3, s⟩ := ⟨H3.out.below hbW (Nat.le_refl _), k3, k3'⟩
    have bA := alloc_below W (.cells #[Sha.prV ⟨some ⟨w.heap.size, 0, none⟩, 8, List.replicate 8 0⟩, Sha.prV ⟨a, c, l⟩, Sha.prV ⟨a3, c3, s⟩] 23)
    have CQ := Sha.ssum_any h (some ⟨W.heap.size, 0, none⟩) 3 _ _ ((HT.out.below hbW).below bA) (parts_three W _ _ _ P1 P2 P3) (by simp) (by simp [Sha.cat]; omega)
    rw [show Sha.cat [⟨some ⟨w.heap.size, 0, none⟩, 8, List.replicate 8 0⟩, ⟨a, c, l⟩, ⟨a3, c3, s⟩] = List.replicate 8 0 ++ l ++ s by simp [Sha.cat], HS.out] at CQ
    unfold Sha.prV at CQ bA
    simp only [List.length_replicate, List.length_cons, List.length_nil] at CQ bA
    refine CQ.mono ?_
    rintro e w' ⟨a', rfl, ho, hb⟩
    exact ⟨a', rfl, Sha.Own.rd ho, bA.trans (hb.mono bA.size)⟩
  clear T r1 r2 r3 hmk8 hbn hbn2
  have C1 := HSum.out wn a1 c1 x (Below.refl _ _) H1.out k1 k1' l1
  obtain ⟨db, Hdb⟩ : ∃ db, Hid (decide (secF h x s = secF h y s) = db) := ⟨_, rfl⟩
  rw [Hdb.out]
  go_enter Tryd.func20, Tryd.ntmps20
  go_wp2_with fail
  refine C1.mono ?_
  rintro e w2 ⟨aX, rfl, hX, hb2⟩
  clear C1 hmk
  have HX : Hid (Rd w2 aX (secF h x s)) := hX
  have HB2 : Hid (Below wn.heap.size wn w2) := hb2
  have C2 := HSum.out w2 a2 c2 y hb2 H2.out k2 k2' l2
  clear hX hb2
  go_wp2_with fail
  refine C2.mono ?_
  rintro e w3 ⟨aY, rfl, hY, hb3⟩
  clear C2 HSum
  have hl1 : (secF h x s).length = S := by rw [secF_length]; exact HS.out
  have hl2 : (secF h y s).length = S := by rw [secF_length]; exact HS.out
  have C3 := psame_any aX aY S S (secF h x s) (secF h y s) w3 (HX.out.below hb3 (Nat.le_refl _)) hY (by rw [hl1]; omega)
  rw [hl1, hl2, Hdb.out] at C3
  have HB3 : Hid (Below w.heap.size w w3) := by
    have h1 := HBn.out.trans (HB2.out.mono HBn.out.size)
    exact h1.trans (hb3.mono h1.size)
  clear hY hb3 hl1 hl2 HX
  go_wp2_with fail
  refine C3.mono ?_
  rintro e w4 ⟨rfl, q, hq⟩
  clear C3
  have HB4 : Hid (Below w.heap.size w w4) := by rw [hq]; exact below_drewN HB3.out q
  clear hq
  go_wp2
  go_ret
  exact ⟨rfl, HB4.out⟩

theorem top_small : ∀ q : Fin 8, ∀ x : Fin 256, (x.val &&& (255 / 2 ^ q.val)) / 2 ^ (8 - q.val) = 0 := by decide +kernel
/-- The first byte's highest bits are noughts. -/
theorem enc_first (h : Int) (d s : List UInt8) (b r : Nat) (hs : 0 < Sha.siz h) (hw : Sha.siz h + s.length + 2 ≤ wid b) (hr : b % 8 = r) (hr0 : r ≠ 0) : (((encF h d s b).getD 0 0).toNat : Int) / 2 ^ r = 0 := by
  obtain ⟨q, hq⟩ : ∃ q, 8 * wid b - b = q := ⟨_, rfl⟩
  have hqr : q < 8 ∧ 8 - q = r := by unfold wid at hq; omega
  have hbl := encF_block h d s b hs hw
  have e0 : (encF h d s b).getD 0 0 = (xorL (blkF (wid b - Sha.siz h - s.length - 2) s) (maskF h (secF h d s) (wid b - Sha.siz h - 1))).getD 0 0 &&& topM q := by
    unfold encF
    rw [hq] at hbl ⊢
    rw [topF_length] at hbl
    rw [List.getD_eq_getElem?_getD, List.getElem?_append_left (by rw [topF_length, hbl]; omega)]
    unfold topF
    rw [List.getElem?_set_self (by rw [hbl]; omega), Option.getD_some]
  rw [e0, UInt8.toNat_and]
  generalize (xorL (blkF (wid b - Sha.siz h - s.length - 2) s) (maskF h (secF h d s) (wid b - Sha.siz h - 1))).getD 0 0 = y
  have ht : (topM q).toNat = 255 / 2 ^ q := by
    unfold topM
    rw [UInt8.toNat_ofNat', Nat.mod_eq_of_lt (Nat.lt_of_le_of_lt (Nat.div_le_self _ _) (by decide))]
  have := top_small ⟨q, hqr.1⟩ ⟨y.toNat, y.toNat_lt⟩
  simp only at this
  rw [hqr.2] at this
  rw [ht]
  have e2 : ((2 : Int) ^ r) = ((2 ^ r : Nat) : Int) := by simp
  rw [e2, ← Int.natCast_ediv, this]
  rfl
theorem enc_last (h : Int) (d s : List UInt8) (b : Nat) (hs : 0 < Sha.siz h) (hw : Sha.siz h + s.length + 2 ≤ wid b) : (encF h d s b).getD (wid b - 1) 0 = 188 := by
  have h2 := encF_tail h d s b hs hw
  have h4 := congrArg (fun l => l.getD (Sha.siz h) 0) h2
  simp only [List.getD_eq_getElem?_getD, List.getElem?_drop] at h4
  rw [List.getD_eq_getElem?_getD]
  rw [show wid b - Sha.siz h - 1 + Sha.siz h = wid b - 1 by omega] at h4
  rw [h4, List.getElem?_append_right (by rw [secF_length]; exact Nat.le_refl _), secF_length, Nat.sub_self]
  rfl
theorem holds_none (h : Int) (d : List UInt8) (bits : Int) : holdsV h d [] bits = false := by
  unfold holdsV
  rw [decide_eq_false]
  rintro ⟨h1, h2, _⟩
  obtain ⟨_, _, _, _, h5⟩ := pcode_ok h1
  rw [List.length_nil] at h2
  omega
theorem xor_anyP (x : UInt8) (k : Nat) (hk : k < 8) : ∃ y : UInt8, bits .xor .u8 (x.toNat : Int) ((2 : Int) ^ k % 256) = (y.toNat : Int) := by
  rcases (show k = 0 ∨ k = 1 ∨ k = 2 ∨ k = 3 ∨ k = 4 ∨ k = 5 ∨ k = 6 ∨ k = 7 by omega) with rfl | rfl | rfl | rfl | rfl | rfl | rfl | rfl
  · exact ⟨_, xor_b x 1⟩
  · exact ⟨_, xor_b x 2⟩
  · exact ⟨_, xor_b x 4⟩
  · exact ⟨_, xor_b x 8⟩
  · exact ⟨_, xor_b x 16⟩
  · exact ⟨_, xor_b x 32⟩
  · exact ⟨_, xor_b x 64⟩
  · exact ⟨_, xor_b x 128⟩

end Go.Proofs.YthnogdkkdekgpaaDoor
