import Derived.Test.YtnccalbeidkeiaaRefStd
namespace Go.Proofs.Ytnccalbeidkeiaa
open Go.RowKit

theorem Ans.slice {w : World} {B0 : Nat} {v : Value} {o : Option (List UInt8)} (h : Ans w B0 v o) : ∃ ao cap, v = .slice ao (o.getD []).length cap ∧ Rd w ao (o.getD []) := by
  cases o with
  | none =>
    have h' : v = .slice none 0 0 := h
    exact ⟨none, 0, h', .inl rfl⟩
  | some bs =>
    obtain ⟨g, cap, h1, h2, h3, h4⟩ := h.rd
    exact ⟨_, cap, h1, h4⟩

theorem decU_len (s : List UInt8) : ((decU s).1.getD []).length ≤ s.length := by
  rcases decU_cases s with ⟨b, h1, h2⟩ | ⟨e, p, h1, _⟩
  · rw [h1]
    have := enc_length urlRow b
    rw [h2] at this
    show b.length ≤ _
    omega
  · rw [h1]; simp

theorem decS_len (s : List UInt8) : ((decS s).1.getD []).length ≤ s.length := by
  rcases decS_cases s with ⟨b, h1, h2⟩ | ⟨e, p, h1, _⟩
  · rw [h1]
    have h3 := enc_length stdRow b
    have h4 : (enc stdRow b ++ fill b.length).length = s.length := by rw [h2]
    rw [List.length_append] at h4
    show b.length ≤ _
    omega
  · rw [h1]; simp

set_option maxHeartbeats 2000000 in
theorem decodes_any (s : List UInt8) (w : World) (hs : s.length ≤ 140737488355328) :
    Calls Try.prog 8 #[.string ⟨s.toArray⟩] w fun e w' => e = .returned (.bool true) ∧ Below w.heap.size w w' := by
  have hU := decU_len s
  have hS := decS_len s
  go_enter Try.func8, Try.ntmps8
  go_wp2_with fail
  refine (decode_any s w (by omega)).mono ?_
  rintro e w1 ⟨v1, rfl, hv1, hb1⟩
  go_wp2_with fail
  refine (refdecode_any s w1 (by omega)).mono ?_
  rintro e w2 ⟨v2, rfl, hv2, hb2⟩
  obtain ⟨a1, c1, rfl, hr1⟩ := hv1.slice
  obtain ⟨a2, c2, rfl, hr2⟩ := hv2.slice
  have R1 : Hid (Rd w2 a1 ((decU s).1.getD [])) := hr1.below hb2 (Nat.le_refl _)
  have R2 : Hid (Rd w2 a2 ((decU s).1.getD [])) := hr2
  have hB2 : Below w.heap.size w w2 := hb1.trans (hb2.mono hb1.size)
  clear hr1 hr2 hv1 hv2 hb1 hb2
  generalize (decU s).2.1 = e1
  generalize (decU s).2.2 = p1
  generalize (decU s).1.getD [] = x1 at *
  go_wp2_with fail
  refine (same_any a1 a2 c1 c2 x1 x1 w2 R1.out R2.out (by omega)).mono ?_
  rw [decide_eq_true (rfl : x1 = x1)]
  rintro e w3 ⟨rfl, q, hq⟩
  have hB3 : Below w.heap.size w w3 := by rw [hq]; exact below_drewN hB2 q
  clear hq hB2 R1 R2
  go_wp2_with fail
  refine (decodeStd_any s w3 (by omega)).mono ?_
  rintro e w4 ⟨v1, rfl, hv1, hb1⟩
  go_wp2_with fail
  refine (refdecodeStd_any s w4 (by omega)).mono ?_
  rintro e w5 ⟨v2, rfl, hv2, hb2⟩
  obtain ⟨a1, c1, rfl, hr1⟩ := hv1.slice
  obtain ⟨a2, c2, rfl, hr2⟩ := hv2.slice
  have R1 : Hid (Rd w5 a1 ((decS s).1.getD [])) := hr1.below hb2 (Nat.le_refl _)
  have R2 : Hid (Rd w5 a2 ((decS s).1.getD [])) := hr2
  have hB5 : Below w.heap.size w w5 := hB3.trans ((hb1.mono hB3.size).trans (hb2.mono (Nat.le_trans hB3.size hb1.size)))
  clear hr1 hr2 hv1 hv2 hb1 hb2 hB3
  generalize (decS s).2.1 = e2
  generalize (decS s).2.2 = p2
  generalize (decS s).1.getD [] = x2 at *
  go_wp2_with fail
  refine (same_any a1 a2 c1 c2 x2 x2 w5 R1.out R2.out (by omega)).mono ?_
  rw [decide_eq_true (rfl : x2 = x2)]
  rintro e w6 ⟨rfl, q, hq⟩
  have hB6 : Below w.heap.size w w6 := by rw [hq]; exact below_drewN hB5 q
  clear hq
  go_wp2
  go_ret
  exact ⟨rfl, hB6⟩

end Go.Proofs.Ytnccalbeidkeiaa
