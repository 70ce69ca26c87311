import Derived.Test.YtkfchdmlemcjhaaDoorDZ
import Derived.Test.YtkfchdmlemcjhaaDoorYZ
namespace Go.Proofs.YtkfchdmlemcjhaaDoor
open Go.RowKit Go.Shelf

/-- A sequence of the text, and whether the rest is valid. -/
theorem chr_valid {t : List UInt8} {p : Nat} (hp : p < t.length) (h128 : 128 ≤ (t.getD p 0).toNat) :
    (∃ (r : Int) (q : Nat), chrF t p = .ok r q ∧ p < q ∧ q ≤ t.length ∧ Lib.validD (t.drop p) = Lib.validD (t.drop q)) ∨ (∃ c b : Nat, c ≠ 0 ∧ chrF t p = .bad c b ∧ Lib.validD (t.drop p) = false) := by
  have hne : t.drop p ≠ [] := fun e => by have := congrArg List.length e; rw [List.length_drop] at this; simp at this; omega
  have h0 : 128 ≤ ((t.drop p).getD 0 0).toNat := by rw [Lib.getD_dropU, Nat.add_zero]; exact h128
  by_cases hv : (Lib.decodeL (t.drop p)).1 = 65533 ∧ (Lib.decodeL (t.drop p)).2 = 1
  · refine .inr ?_
    have hf : Lib.validD (t.drop p) = false := by rw [Lib.validD_step _ hne, if_pos hv]
    by_cases hfu : fullR (t.drop p) = false
    · exact ⟨31, t.length, by decide, by unfold chrF; simp only; rw [if_pos hfu], hf⟩
    · refine ⟨32, p, by decide, ?_, hf⟩
      unfold chrF
      simp only
      rw [if_neg hfu, if_neg (c := t.getD p 0 = 92) (fun e => by rw [e] at h128; revert h128; decide), if_neg (c := t.getD p 0 < 32) (fun e => by have e2 : (t.getD p 0).toNat < 32 := e; omega), if_pos hv]
  · refine .inl ?_
    have hc := (chr_long (T := t) (p := p) (A := (t.drop p).drop (Lib.decodeL (t.drop p)).2) hne h0 hv (by rw [List.take_append_drop])).1
    have hle := Lib.decodeL_le _ hne
    have hw := Lib.decodeL_width (t.drop p)
    rw [List.length_drop] at hle
    refine ⟨_, _, hc, by omega, by omega, ?_⟩
    rw [Lib.validD_step _ hne, if_neg hv, List.drop_drop]

set_option maxRecDepth 100000 in
set_option maxHeartbeats 4000000 in
/-- The document's look at UTF-8. -/
theorem rutf_any (t : List UInt8) (w : World) (ht : t.length ≤ 1000000000) :
    Calls Tryd.prog 23 #[.string ⟨t.toArray⟩] w fun e w' => e = .returned (.bool (Lib.validD t)) ∧ Below w.heap.size w w' := by
  obtain ⟨V, hV⟩ : ∃ V, Lib.validD t = V := ⟨_, rfl⟩
  have HV : Hid (Lib.validD (t.drop 0) = V) := hV
  rw [hV]
  clear hV
  go_enter Tryd.func23, Tryd.ntmps23
  go_wp2
  go_loopw [3] (fun s wx => ∃ k : Nat, s = .int .i64 k ∧ k ≤ t.length ∧ Below w.heap.size w wx ∧ Hid (Lib.validD (t.drop k) = V)) (fun s _ => t.length - (intOf s).toNat)
  case atStart => exact ⟨0, rfl, Nat.zero_le _, Below.refl _ _, HV⟩
  case round =>
    obtain ⟨k, rfl, hk, hB, HK⟩ := hrel
    have HB : Hid (Below w.heap.size w wr) := hB
    clear hB HV
    by_cases hlt : k < t.length
    · have q0 : decide ((k : Int) < (t.length : Int)) = true := decide_eq_true (by omega)
      obtain ⟨c, hc⟩ : ∃ c, t.getD k 0 = c := ⟨_, rfl⟩
      have gx : (⟨t.toArray⟩ : ByteArray)[k]'(by show k < t.toArray.size; simpa using hlt) = c := by rw [← hc]; simp [List.getD_eq_getElem?_getD, hlt]; rfl
      by_cases h8 : c.toNat < 128
      · have q1 : decide ((c.toNat : Int) < 128) = true := decide_eq_true (by omega)
        have HK2 : Hid (Lib.validD (t.drop (k + 1)) = V) := by
          have h := HK.out
          rw [List.drop_eq_getElem_cons hlt, Lib.validD_cons _ _ (by rw [← hc] at h8; simpa [List.getD_eq_getElem?_getD, hlt] using h8)] at h
          exact h
        clear hc HK
        go_wp2
        go_roundw
        case rel => exact ⟨k + 1, by go_num, by omega, HB.out, HK2⟩
        case measure => simp [intOf]; omega
      · have q1 : decide ((c.toNat : Int) < 128) = false := decide_eq_false (by omega)
        have CS := sequence_any t k wr hlt (by rw [hc]; omega) ht
        rcases chr_valid hlt (by rw [hc]; omega) with ⟨r, q, e1, hq1, hq2, e2⟩ | ⟨cc, b, hc0, e1, e2⟩
        · have e3 : chF t k = .ok (Lib.encodeRune r) q := by unfold chF; rw [e1]
          rw [e3] at CS
          have HK2 : Hid (Lib.validD (t.drop q) = V) := by show _ = _; rw [← e2]; exact HK.out
          clear e1 e2 e3 hc HK
          generalize Lib.encodeRune r = S at CS
          go_wp2_with fail
          refine CS.mono ?_
          clear CS
          rintro e w2 ⟨⟨v, rfl, hv⟩, hB2⟩
          have hv2 : v = gotV (q : Int) nilV S 0 0 := hv
          subst hv2
          have HB2 : Hid (Below w.heap.size w w2) := HB.out.trans (hB2.mono HB.out.size)
          clear hB2 hv HB
          unfold gotV gotC nilV
          go_wp2
          go_roundw
          case rel => exact ⟨q, rfl, hq2, HB2.out.trans ((alloc_below _ _).mono HB2.out.size), HK2⟩
          case measure => simp [intOf]; omega
        · have e3 : chF t k = .bad cc b := by unfold chF; rw [e1]
          rw [e3] at CS
          have HF : Hid (V = false) := by show _ = _; rw [← HK.out]; exact e2
          have qc : ((cc : Int) != 0) = true := by simpa using hc0
          clear e1 e2 e3 hc HK
          go_wp2_with fail
          refine CS.mono ?_
          clear CS
          rintro e w2 ⟨⟨v, rfl, hv⟩, hB2⟩
          obtain ⟨a, S, hv2⟩ := hv
          subst hv2
          have HB2 : Hid (Below w.heap.size w w2) := HB.out.trans (hB2.mono HB.out.size)
          clear hB2 HB
          unfold gotV gotC nilV
          go_wp2
          go_ret
          rw [HF.out]
          exact ⟨rfl, HB2.out.trans ((alloc_below _ _).mono HB2.out.size)⟩
    · have q0 : decide ((k : Int) < (t.length : Int)) = false := decide_eq_false (by omega)
      have HF : Hid (V = true) := by
        show _ = _
        rw [← HK.out, List.drop_eq_nil_of_le (by omega)]
        rfl
      clear HK
      go_wp2
      go_ret
      rw [HF.out]
      exact ⟨rfl, HB.out⟩

end Go.Proofs.YtkfchdmlemcjhaaDoor
