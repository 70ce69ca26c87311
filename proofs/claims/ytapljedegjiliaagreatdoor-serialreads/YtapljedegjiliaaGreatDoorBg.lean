import Derived.Test.YtapljedegjiliaaGreatDoorBd
import Derived.Test.YtapljedegjiliaaGreatDoorBe
import Derived.Test.YtapljedegjiliaaGreatDoorBf
namespace Go.Proofs.YtapljedegjiliaaGreatDoor
open Go.RowKit Go.Shelf

theorem tokens_len (t : List UInt8) : (tokensF t).1.length ≤ 1000000 := by
  have h1 := (parse_bd t).1
  unfold tokensF
  split
  · simp
  · split
    · have h2 := sign_len (parseF t).1
      unfold toksF
      split
      · rw [List.length_map]; omega
      · simp
    · simp

set_option maxRecDepth 100000 in
set_option maxHeartbeats 16000000 in
/-- The law, at any string. -/
theorem sreads_any (t : List UInt8) (w : World) (hG : GL w.heap.size w) :
    Calls Tryz.prog 3 #[.string ⟨t.toArray⟩] w fun e w' => e = .returned (.bool true) ∧ Below w.heap.size w w' := by
  have C1 := tokens_any t w hG
  have HC2 : Hid (∀ wq, Below w.heap.size w wq → Calls Tryz.prog 4 #[.string ⟨t.toArray⟩] wq fun e w' => (∃ v, e = .returned (.tuple #[v, .int .i64 ((tokensF t).2 : Int)]) ∧ OT wq.heap.size w' v (tokensF t).1) ∧ Below wq.heap.size wq w') := fun wq hq => tokens_any t wq ((hG.below hq).up hq.size)
  have HC3 : Hid (∀ wq, Calls Tryz.prog 5 #[.string ⟨t.toArray⟩] wq fun e w' => (∃ v, e = .returned (.tuple #[v, .int .i64 ((tokensF t).2 : Int)]) ∧ OT wq.heap.size w' v (tokensF t).1) ∧ Below wq.heap.size wq w') := fun wq => rtokens_any t wq
  have hln := tokens_len t
  generalize tokensF t = tf at *
  obtain ⟨L, c⟩ := tf
  dsimp only at *
  clear hG
  go_enter Tryz.func3, Tryz.ntmps3
  go_wp2_with fail
  refine C1.mono ?_
  clear C1
  rintro e w1 ⟨⟨v1, rfl, ho1⟩, hB1⟩
  have HB1 : Hid (Below w.heap.size w w1) := hB1
  have HO1 : Hid (OT w.heap.size w1 v1 L) := ho1
  have C2 := HC2.out w1 hB1
  clear hB1 HC2 ho1
  go_wp2_with fail
  refine C2.mono ?_
  clear C2
  rintro e w2 ⟨⟨v2, rfl, ho2⟩, hB2⟩
  have HO2 : Hid (OT w1.heap.size w2 v2 L) := ho2
  have HB2 : Hid (Below w1.heap.size w1 w2) := hB2
  have C3 := HC3.out w2
  clear hB2 HC3 ho2
  go_wp2_with fail
  refine C3.mono ?_
  clear C3
  rintro e w3 ⟨⟨v3, rfl, ho3⟩, hB3⟩
  have h1 : OT w.heap.size w3 v1 L := own_below (own_below HO1.out HB2.out (Nat.le_refl _)) hB3 (Nat.le_refl _)
  have h2 : OT w1.heap.size w3 v2 L := own_below HO2.out hB3 (Nat.le_refl _)
  obtain ⟨a1, c1, e1, t1⟩ := h1.tr
  obtain ⟨a2, c2, e2, t2⟩ := h2.tr
  obtain ⟨a3, c3, e3, t3⟩ := ho3.tr
  subst e1 e2 e3
  have HB3 : Hid (Below w.heap.size w w3) := (HB1.out.trans (HB2.out.mono HB1.out.size)).trans (hB3.mono (Nat.le_trans HB1.out.size HB2.out.size))
  have HLB : Hid (∀ g, (Value.slice a1 L.length c1).ownBlock = some g → g < w1.heap.size ∧ w.heap.size ≤ g) := fun g hg => ⟨(HO1.out.lt g hg).2, (h1.lt g hg).1⟩
  have C4 := stexts21_any L L a1 a3 c1 c3 w3 t1 t3 (by omega)
  rw [decide_eq_true rfl] at C4
  have HO1' : Hid (∀ q, (w3.drewN q).ownsRow 0 9 1 (.slice a1 L.length c1) L.length (L.map tV)) := fun q => own_mono h1 (Nat.zero_le _)
  have HW2 : Hid (OT w1.heap.size w3 (.slice a2 L.length c2) L) := h2
  have HW3 : Hid (OT w2.heap.size w3 (.slice a3 L.length c3) L) := ho3
  have HS12 : Hid (w1.heap.size ≤ w2.heap.size) := HB2.out.size
  clear h1 h2 ho3 hB3 t1 t2 t3 HO1 HO2 HB1 HB2
  have qc : ((c : Int) == (c : Int)) = true := by simp
  go_wp2_with fail
  refine C4.mono ?_
  clear C4
  rintro e w4 ⟨rfl, q, rfl⟩
  have C5 := spoil_any L a1 c1 [115, 112, 111, 105, 108, 116] (w3.drewN q) (HO1'.out q) (by omega)
  clear HO1'
  go_wp2_with fail
  refine C5.mono ?_
  clear C5
  rintro e w5 ⟨rfl, hg5⟩
  have hk2 : OT w1.heap.size w5 (.slice a2 L.length c2) L := own_keep (w := w3.drewN q) HW2.out fun g hg => hg5.block g (HW2.out.lt g hg).2 (fun e => by
    have h6 := (HLB.out g e.symm).1
    have h7 := (HW2.out.lt g hg).1
    omega)
  have hk3 : OT w2.heap.size w5 (.slice a3 L.length c3) L := own_keep (w := w3.drewN q) HW3.out fun g hg => hg5.block g (HW3.out.lt g hg).2 (fun e => by
    have h6 := (HLB.out g e.symm).1
    have h7 := (HW3.out.lt g hg).1
    have h8 := HS12.out
    omega)
  obtain ⟨a2', c2', e2, t2⟩ := hk2.tr
  cases e2
  obtain ⟨a3', c3', e3, t3⟩ := hk3.tr
  cases e3
  have C6 := stexts21_any L L a2 a3 c2 c3 w5 t2 t3 (by omega)
  rw [decide_eq_true rfl] at C6
  have HB5 : Hid (Below w.heap.size w w5) := (below_drewN HB3.out q).grown hg5 HB3.out.size (fun g hg => (HLB.out g hg).2)
  clear hk2 hk3 hg5 t2 t3 HW2 HW3 HLB HB3
  go_wp2_with fail
  refine C6.mono ?_
  clear C6
  rintro e w6 ⟨rfl, q2, rfl⟩
  go_wp2
  go_ret
  exact ⟨rfl, below_drewN HB5.out q2⟩

end Go.Proofs.YtapljedegjiliaaGreatDoor
