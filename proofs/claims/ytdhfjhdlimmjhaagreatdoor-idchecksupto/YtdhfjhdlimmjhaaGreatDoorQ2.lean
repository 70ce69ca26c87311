import Derived.Test.YtdhfjhdlimmjhaaGreatDoorQ1
import Derived.Test.YtdhfjhdlimmjhaaGreatDoorShX
import Derived.Test.YtdhfjhdlimmjhaaGreatDoorB6Y
namespace Go.Proofs.YtdhfjhdlimmjhaaGreatDoor
open Go.RowKit
set_option maxRecDepth 100000

theorem rhash_any (a : Int) (w : World) : Calls Tryz.prog 14 #[.int .i64 a] w fun e w' => e = .returned (.int .i64 (hhF a)) ∧ w' = w := by
  rcases hh_cases a with h | ⟨h0, h⟩
  · rcases h with rfl | rfl | rfl | rfl | rfl | rfl | rfl | rfl | rfl | rfl | rfl | rfl <;>
    · go_enter Tryz.func14, Tryz.ntmps14
      go_wp2
      go_ret
      exact ⟨rfl, rfl⟩
  · rw [h0]
    have d1 := h 1 (by omega) (by omega)
    have d2 := h 2 (by omega) (by omega)
    have d3 := h 3 (by omega) (by omega)
    have d4 := h 4 (by omega) (by omega)
    have d5 := h 5 (by omega) (by omega)
    have d6 := h 6 (by omega) (by omega)
    have d7 := h 7 (by omega) (by omega)
    have d8 := h 8 (by omega) (by omega)
    have d9 := h 9 (by omega) (by omega)
    have d10 := h 10 (by omega) (by omega)
    have d11 := h 11 (by omega) (by omega)
    have d12 := h 12 (by omega) (by omega)
    clear h h0
    go_enter Tryz.func14, Tryz.ntmps14
    go_wp2
    go_ret
    exact ⟨rfl, rfl⟩

theorem rhalf_ok (a h : Int) (n : Nat) (t : List UInt8) (w : World) (R : Sha.Rt w) (ht : t.length ≤ 100000000) (hh : hhF a = h) (h3 : h = 1 ∧ n = 16 ∨ h = 2 ∧ n = 24 ∨ h = 3 ∧ n = 32) :
    Calls Tryz.prog 32 #[.int .i64 a, .string ⟨t.toArray⟩] w fun e w' => e = .returned (.tuple #[.string ⟨(B64.enc B64.urlRow ((Sha.sumF h t).take n)).toArray⟩, .int .i64 0]) ∧ Below w.heap.size w w' := by
  have C1 := rhash_any a w
  rw [hh] at C1
  clear hh
  obtain ⟨c, W1, hcv, hr, hc1, hc2, hb⟩ := conv_bytes t w (by omega)
  have CQ := Sha.rsum_any h (some ⟨w.heap.size, 0, none⟩) c t W1 (R.below hb (Nat.le_refl _)) hr (fun e => by cases e) ht
  have hlen := Sha.sumF_length h t
  have HB1 : Hid (Below w.heap.size w W1) := hb
  clear hb hr hc1 hc2 ht R
  rcases h3 with ⟨rfl, rfl⟩ | ⟨rfl, rfl⟩ | ⟨rfl, rfl⟩
  · rw [show Sha.siz 1 = 32 from rfl] at CQ hlen
    go_enter Tryz.func32, Tryz.ntmps32
    go_wp2_with fail
    refine C1.mono ?_
    rintro e w1 ⟨rfl, rfl⟩
    go_wp2_with fail
    refine CQ.mono ?_
    rintro e w2 ⟨a2, c2, rfl, hc3, hc4, hn2, hr2, hg2, hb2⟩
    obtain ⟨g, o, rfl⟩ : ∃ g o, a2 = some ⟨g, o, none⟩ := by
      rcases hr2 with h | ⟨g, o, e, _⟩
      · rw [h] at hlen; cases hlen
      · exact ⟨g, o, e⟩
    have hl2 : ((Sha.sumF 1 t).take 16).length = 16 := by rw [List.length_take, hlen]; rfl
    have CE := B64.refencode_any (some ⟨g, o, none⟩) c2 ((Sha.sumF 1 t).take 16) w2 (rd_take hr2 16) (by omega)
    rw [hl2] at CE
    have hc5 : (16 : Nat) ≤ c2 := by omega
    have HB2 : Hid (Below _ _ w2) := hb2
    clear hb2 hr2 hlen hl2 hn2 hg2
    unfold maxLen at hc4
    go_wp2_with fail
    refine CE.mono ?_
    rintro e w3 ⟨rfl, hb3⟩
    go_wp2
    go_ret2
    have h2 := HB1.out.trans (HB2.out.mono HB1.out.size)
    exact ⟨rfl, h2.trans (hb3.mono h2.size)⟩
  · rw [show Sha.siz 2 = 48 from rfl] at CQ hlen
    go_enter Tryz.func32, Tryz.ntmps32
    go_wp2_with fail
    refine C1.mono ?_
    rintro e w1 ⟨rfl, rfl⟩
    go_wp2_with fail
    refine CQ.mono ?_
    rintro e w2 ⟨a2, c2, rfl, hc3, hc4, hn2, hr2, hg2, hb2⟩
    obtain ⟨g, o, rfl⟩ : ∃ g o, a2 = some ⟨g, o, none⟩ := by
      rcases hr2 with h | ⟨g, o, e, _⟩
      · rw [h] at hlen; cases hlen
      · exact ⟨g, o, e⟩
    have hl2 : ((Sha.sumF 2 t).take 24).length = 24 := by rw [List.length_take, hlen]; rfl
    have CE := B64.refencode_any (some ⟨g, o, none⟩) c2 ((Sha.sumF 2 t).take 24) w2 (rd_take hr2 24) (by omega)
    rw [hl2] at CE
    have hc5 : (24 : Nat) ≤ c2 := by omega
    have HB2 : Hid (Below _ _ w2) := hb2
    clear hb2 hr2 hlen hl2 hn2 hg2
    unfold maxLen at hc4
    go_wp2_with fail
    refine CE.mono ?_
    rintro e w3 ⟨rfl, hb3⟩
    go_wp2
    go_ret2
    have h2 := HB1.out.trans (HB2.out.mono HB1.out.size)
    exact ⟨rfl, h2.trans (hb3.mono h2.size)⟩
  · rw [show Sha.siz 3 = 64 from rfl] at CQ hlen
    go_enter Tryz.func32, Tryz.ntmps32
    go_wp2_with fail
    refine C1.mono ?_
    rintro e w1 ⟨rfl, rfl⟩
    go_wp2_with fail
    refine CQ.mono ?_
    rintro e w2 ⟨a2, c2, rfl, hc3, hc4, hn2, hr2, hg2, hb2⟩
    obtain ⟨g, o, rfl⟩ : ∃ g o, a2 = some ⟨g, o, none⟩ := by
      rcases hr2 with h | ⟨g, o, e, _⟩
      · rw [h] at hlen; cases hlen
      · exact ⟨g, o, e⟩
    have hl2 : ((Sha.sumF 3 t).take 32).length = 32 := by rw [List.length_take, hlen]; rfl
    have CE := B64.refencode_any (some ⟨g, o, none⟩) c2 ((Sha.sumF 3 t).take 32) w2 (rd_take hr2 32) (by omega)
    rw [hl2] at CE
    have hc5 : (32 : Nat) ≤ c2 := by omega
    have HB2 : Hid (Below _ _ w2) := hb2
    clear hb2 hr2 hlen hl2 hn2 hg2
    unfold maxLen at hc4
    go_wp2_with fail
    refine CE.mono ?_
    rintro e w3 ⟨rfl, hb3⟩
    go_wp2
    go_ret2
    have h2 := HB1.out.trans (HB2.out.mono HB1.out.size)
    exact ⟨rfl, h2.trans (hb3.mono h2.size)⟩

theorem rhalf_any (a : Int) (t : List UInt8) (w : World) (R : Sha.Rt w) (ht : t.length ≤ 100000000) :
    Calls Tryz.prog 32 #[.int .i64 a, .string ⟨t.toArray⟩] w fun e w' => e = .returned (.tuple #[.string ⟨(halfF a t).1.toArray⟩, .int .i64 ((halfF a t).2 : Nat)]) ∧ Below w.heap.size w w' := by
  unfold halfF
  rcases hh_is a with h | h | h | h
  · rw [if_pos h]
    have C1 := rhash_any a w
    rw [h] at C1
    clear R
    go_enter Tryz.func32, Tryz.ntmps32
    go_wp2_with fail
    refine C1.mono ?_
    rintro e w1 ⟨rfl, rfl⟩
    go_wp2
    go_ret2
    exact ⟨rfl, Below.refl _ _⟩
  · rw [if_neg (by omega)]
    have := rhalf_ok a 1 16 t w R ht h (.inl ⟨rfl, rfl⟩)
    rw [h]
    exact this
  · rw [if_neg (by omega)]
    have := rhalf_ok a 2 24 t w R ht h (.inr (.inl ⟨rfl, rfl⟩))
    rw [h]
    exact this
  · rw [if_neg (by omega)]
    have := rhalf_ok a 3 32 t w R ht h (.inr (.inr ⟨rfl, rfl⟩))
    rw [h]
    exact this

end Go.Proofs.YtdhfjhdlimmjhaaGreatDoor
