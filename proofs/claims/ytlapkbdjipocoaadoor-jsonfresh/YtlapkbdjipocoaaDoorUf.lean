import Derived.Test.YtlapkbdjipocoaaDoorUe
namespace Go.Proofs.YtlapkbdjipocoaaDoor
open Go.RowKit Go.Shelf

theorem own_rd {w : World} {base : Nat} {v : Value} {l : List UInt8} (h : w.ownsRow base 5 1 v l.length (l.map B)) : ∃ a c, v = .slice a l.length c ∧ Rd w a l := by
  obtain ⟨a, c, rfl, hc, hp⟩ := own_slice h
  refine ⟨a, c, rfl, ?_⟩
  rcases Nat.eq_zero_or_pos l.length with h0 | h0
  · exact .inl (List.eq_nil_of_length_eq_zero h0)
  · obtain ⟨g, rfl⟩ := hp h0
    refine .inr ⟨g, 0, rfl, (h.lt g rfl).2, fun j hj => ?_⟩
    rw [Nat.zero_add, (own_cell h j _ (by rw [List.getElem?_map, List.getElem?_eq_getElem hj]; rfl)).1, getD_eq _ _ hj]

theorem printF_bad {v : List Nd} (h : shapedF v = false) : printF v = ([], 31) := by unfold printF; rw [if_pos h]
theorem printF_large {v : List Nd} (h : shapedF v = true) (hl : 262144 < (prF v 33 0).1.length) : printF v = ([], 10) := by unfold printF; rw [if_neg (by rw [h]; decide), if_pos hl]
theorem printF_ok {v : List Nd} (h : shapedF v = true) (hl : (prF v 33 0).1.length ≤ 262144) : printF v = ((prF v 33 0).1, 0) := by unfold printF; rw [if_neg (by rw [h]; decide), if_neg (by omega)]
theorem shaped_sv {v : List Nd} (h : shapedF v = true) : ∃ m, svF v 33 0 (-1) 0 [] = some (v.length, m) := by
  unfold shapedF at h
  split at h
  · rename_i j m e
    have := of_decide_eq_true h
    subst this
    exact ⟨m, e⟩
  · cases h

set_option maxRecDepth 100000 in
set_option maxHeartbeats 4000000 in
theorem print_any (v : Value) (l : List Nd) (ao : Option Addr) (cap : Nat) (w : World) (h : NR w v l ao cap) (hG : GL w.heap.size w) (ht : TB l) (hl : l.length ≤ 1000000000) :
    Calls Tryd.prog 24 #[v] w fun e w' => e = .returned (.tuple #[.string ⟨(printF l).1.toArray⟩, .int .i64 ((printF l).2 : Int)]) ∧ Below w.heap.size w w' := by
  have CS := shaped_any v l ao cap w h hG ht hl
  have HN : Hid (∀ wq, Below w.heap.size w wq → NR wq (.slice ao l.length cap) l ao cap) := fun wq hq => by have := h.below hq (Nat.le_refl _); obtain ⟨rfl, _, _⟩ := id h; exact this
  obtain ⟨rfl, _, _⟩ := id h
  have HT : Hid (TB l) := ht
  clear h hG ht
  cases hs : shapedF l
  · rw [hs] at CS
    have HF : Hid (printF l = ([], 31)) := printF_bad hs
    clear hs
    go_enter Tryd.func24, Tryd.ntmps24
    go_wp2_with fail
    refine CS.mono ?_
    rintro e w1 ⟨rfl, hB1⟩
    go_wp2
    go_ret2
    rw [HF.out]
    exact ⟨rfl, hB1⟩
  · rw [hs] at CS
    have HS : Hid (∃ m, svF l 33 0 (-1) 0 [] = some (l.length, m)) := shaped_sv hs
    have HL : Hid (262144 < (prF l 33 0).1.length → printF l = ([], 10)) := printF_large hs
    have HO : Hid ((prF l 33 0).1.length ≤ 262144 → printF l = ((prF l 33 0).1, 0)) := printF_ok hs
    clear hs
    go_enter Tryd.func24, Tryd.ntmps24
    go_wp2_with fail
    refine CS.mono ?_
    clear CS
    rintro e w1 ⟨rfl, hB1⟩
    have HB1 : Hid (Below w.heap.size w w1) := hB1
    have hN1 := HN.out w1 hB1
    obtain ⟨m, hm⟩ := HS.out
    have hB2 : Below w1.heap.size w1 (w1.alloc (.cells #[.slice none 0 0, .bool false] 56)) := alloc_below _ _
    have hWE : WE w1.heap.size (w1.alloc (.cells #[.slice none 0 0, .bool false] 56)) w1.heap.size [] := ⟨.slice none 0 0, [], false, Nat.le_refl _, hB2.size, alloc_bl w1 [.slice none 0 0, .bool false] _, World.ownsRow_nil _ _ _ _, fun _ => ⟨rfl, rfl⟩, fun hx => by simp at hx, by simp⟩
    have C := value_all w1 l ao cap hN1 HT.out hl 33 _ w1.heap.size [] 0 (-1) 0 [] l.length m hB2 hWE hm
    rw [List.nil_append] at C
    clear hB1 hN1 hm hB2 hWE
    go_wp2_with fail
    refine C.mono ?_
    clear C
    rintro e w2 ⟨rfl, hB2, tv, acc, lg, hWS⟩
    have HB2 : Hid (Below w.heap.size w w2) := HB1.out.trans (hB2.mono HB1.out.size)
    have c0 : w2.cell? ⟨w1.heap.size, 0, none⟩ = some tv := hWS.bl.cell 0 (by simp)
    have c1 : w2.cell? ⟨w1.heap.size, 1, none⟩ = some (.bool lg) := hWS.bl.cell 1 (by simp)
    cases lg
    · have hle : (prF l 33 0).1.length ≤ 262144 := by
        rcases Nat.lt_or_ge 262144 (prF l 33 0).1.length with h1 | h1
        · have := hWS.big h1; cases this
        · exact h1
      have hacc := (hWS.fit hle).1
      have HZ : Hid (printF l = (acc, 0)) := by show _ = _; rw [HO.out hle, hacc]
      obtain ⟨a, cp, rfl, hrd⟩ := own_rd hWS.own
      have hcv := conv_any w2 a cp acc hrd
      clear hWS hB2 hle hacc hrd
      go_wp2
      go_ret2
      rw [HZ.out]
      exact ⟨rfl, HB2.out⟩
    · have hlt : 262144 < (prF l 33 0).1.length := by
        rcases Nat.lt_or_ge 262144 (prF l 33 0).1.length with h1 | h1
        · exact h1
        · have := (hWS.fit h1).2; cases this
      have HZ : Hid (printF l = ([], 10)) := HL.out hlt
      clear hWS hB2 hlt
      go_wp2
      go_ret2
      rw [HZ.out]
      exact ⟨rfl, HB2.out⟩

end Go.Proofs.YtlapkbdjipocoaaDoor
