import Derived.Test.YthnogdkkdekgpaaGreatDoorRA
namespace Go.Proofs.YthnogdkkdekgpaaGreatDoor
open Go.RowKit

theorem Owb.mkP {w : World} {base g cap : Nat} {l : List UInt8} {r : List Value} (hb : Bl 5 w g (l.map B ++ r)) (hg : base ≤ g) (hs : l.length + r.length = cap) (hm : cap ≤ maxLen) : Owb w base (.slice (some ⟨g, 0, none⟩) l.length cap) l := by
  refine ⟨by simp, .inr ⟨g, cap, _, rfl, hg, hb, by omega, hm, ?_, ?_⟩⟩
  · simp; omega
  · rw [show (l.map B ++ r).toArray.toList = l.map B ++ r from rfl]
    rw [List.take_append_of_le_length (by simp), List.take_of_length_le (by simp)]

set_option maxRecDepth 100000 in
set_option maxHeartbeats 4000000 in
theorem rsecond_any (h : Int) (a1 a2 : Option Addr) (c1 c2 : Nat) (d s : List UInt8) (w : World) (R : Sha.Rt w) (r1 : Rd w a1 d) (r2 : Rd w a2 s) (n1 : a1 = none → d.length = 0 ∧ c1 = 0) (n2 : a2 = none → s.length = 0 ∧ c2 = 0) (l1 : d.length ≤ 10000000) (l2 : s.length ≤ 10000000) :
    Calls Tryz.prog 82 #[.int .i64 h, .slice a1 d.length c1, .slice a2 s.length c2] w fun e w' => ∃ a' c', e = .returned (.slice a' (Sha.siz h) c') ∧ Sha.siz h ≤ c' ∧ c' ≤ maxLen ∧ (a' = none → Sha.siz h = 0 ∧ c' = 0) ∧ Rd w' a' (secF h d s) ∧ Below w.heap.size w w' := by
  have HR : Hid (Sha.Rt w) := R
  have H1 : Hid (Rd w a1 d) := r1
  have H2 : Hid (Rd w a2 s) := r2
  obtain ⟨wn, hmk8, hbn, hbn2⟩ := madeB w 8 (by omega)
  have hmk : (Instr.makeSlice 23 (.int .i64 8) (.int .i64 8)).run Tryz.prog w = .ok (.slice (some ⟨w.heap.size, 0, none⟩) 8 8) wn := hmk8
  have HOn : Hid (OBb w.heap.size w wn (.slice (some ⟨w.heap.size, 0, none⟩) 8 8) (List.replicate 8 0)) := by
    have := hbn.owb (base := w.heap.size) (Nat.le_refl _) (by simp)
    rw [List.length_replicate] at this
    exact ⟨this, hbn2⟩
  have HRd : Hid (∀ (W : World) (a : Option Addr) (l : List UInt8), Below w.heap.size w W → Rd w a l → Rd W a l) := fun W a l hb hr => hr.below hb (Nat.le_refl _)
  have hws : w.heap.size ≤ wn.heap.size := hbn2.size
  clear R r1 r2 hmk8 hbn hbn2
  go_enter Tryz.func82, Tryz.ntmps82
  go_wp2_with (first
    | (at_builtin; refine append_rdb rfl (.tmp 9) (.tmp 10) rfl w.heap.size _ (List.replicate 8 0) rfl HOn.out.own a1 d.length c1 d rfl rfl n1 (HRd.out _ _ _ HOn.out.bel H1.out) (by rw [List.length_replicate]; omega) hws ?_; intro v5 w5 h5 h6; have HO5 : Hid (OBb w.heap.size w w5 v5 (List.replicate 8 0 ++ d)) := ⟨h5, HOn.out.bel.grown h6 hws (own_block HOn.out.own)⟩; clear h5 h6; obtain ⟨a5, z5, c5, e5⟩ : ∃ a z c, v5 = .slice a z c := (by obtain ⟨a, c, e, _⟩ := HO5.out.own.nb; exact ⟨a, _, c, e⟩); subst e5)
    | (at_builtin; refine append_rdb rfl (.tmp 12) (.tmp 13) rfl w.heap.size _ (List.replicate 8 0 ++ d) rfl HO5.out.own a2 s.length c2 s rfl rfl n2 (HRd.out _ _ _ HO5.out.bel H2.out) (by rw [List.length_append, List.length_replicate]; omega) HO5.out.bel.size ?_; intro v6 w6 h7 h8; have HO6 : Hid (OBb w.heap.size w w6 v6 (List.replicate 8 0 ++ d ++ s)) := ⟨h7, HO5.out.bel.grown h8 HO5.out.bel.size (own_block HO5.out.own)⟩; clear h7 h8; obtain ⟨a6, c6, e6, hr6⟩ : ∃ a c, v6 = .slice a (List.replicate 8 0 ++ d ++ s).length c ∧ Hid (Rd w6 a (List.replicate 8 0 ++ d ++ s)) := (by obtain ⟨a, c, e, _, hr⟩ := HO6.out.own.nb; exact ⟨a, c, e, hr⟩); obtain ⟨z6, hz6⟩ : ∃ z, (List.replicate 8 (0 : UInt8) ++ d ++ s).length = z := ⟨_, rfl⟩; rw [hz6] at e6; subst e6)
    | fail)
  have hl6 : 0 < (List.replicate 8 (0 : UInt8) ++ d ++ s).length ∧ (List.replicate 8 (0 : UInt8) ++ d ++ s).length ≤ 30000000 := by simp; omega
  have hns : a6 = none → (List.replicate 8 (0 : UInt8) ++ d ++ s).length = 0 ∧ c6 = 0 := fun e => by
    rcases hr6.out with h0 | ⟨g, o, e1, _⟩
    · rw [h0] at hl6; simp at hl6
    · rw [e] at e1; cases e1
  have CS := Sha.rsum_any h a6 c6 (List.replicate 8 0 ++ d ++ s) w6 (RtB HR.out HO6.out.bel (Nat.le_refl _)) hr6.out hns (by omega)
  rw [hz6] at CS
  have HB6 : Hid (Below w.heap.size w w6) := HO6.out.bel
  clear hns hl6 hr6 HO5 HO6 hz6 hmk
  refine CS.mono ?_
  rintro e w7 ⟨aS, cS, rfl, hc1, hc2, hn, hR, _, hb⟩
  clear CS
  have HF : Hid (Sha.siz h ≤ cS ∧ cS ≤ maxLen ∧ (aS = none → Sha.siz h = 0 ∧ cS = 0) ∧ Rd w7 aS (secF h d s) ∧ Below w.heap.size w w7) := ⟨hc1, hc2, hn, hR, HB6.out.trans (hb.mono HB6.out.size)⟩
  clear hc1 hc2 hn hR hb
  go_wp2
  go_ret
  exact ⟨aS, cS, rfl, HF.out⟩

theorem rtop_any (b : Nat) (w : World) (hb : b ≤ 100000) : Calls Tryz.prog 83 #[.int .i64 (b : Int)] w fun e w' => e = .returned (.int .i64 ((8 * wid b - b : Nat) : Int)) ∧ w' = w := by
  obtain ⟨r, hr⟩ : ∃ r, b % 8 = r := ⟨_, rfl⟩
  obtain ⟨q, Hq⟩ : ∃ q, Hid (8 * wid b - b = q) := ⟨_, rfl⟩
  rw [Hq.out]
  have hrq : r < 8 ∧ q < 8 ∧ (8 - r) % 8 = q := by have := Hq.out; unfold wid at this; omega
  have e1 : Int.tmod (b : Int) 8 = (r : Int) := by rw [Int.tmod_eq_emod_of_nonneg (by omega)]; omega
  have e1' : (b : Int) % 8 = (r : Int) := by omega
  obtain ⟨t, ht⟩ : ∃ t, 8 - r = t := ⟨_, rfl⟩
  have e2 : (8 : Int) - (r : Int) = (t : Int) := by omega
  have e3 : Int.tmod (t : Int) 8 = (q : Int) := by rw [Int.tmod_eq_emod_of_nonneg (by omega)]; omega
  have e3' : (t : Int) % 8 = (q : Int) := by omega
  have ht8 : t ≤ 8 := by omega
  have hr8 : r < 8 := hrq.1
  have hq8 : q < 8 := hrq.2.1
  clear hrq hr ht
  go_enter Tryz.func83, Tryz.ntmps83
  go_wp2
  go_ret
  exact ⟨rfl, rfl⟩

end Go.Proofs.YthnogdkkdekgpaaGreatDoor
