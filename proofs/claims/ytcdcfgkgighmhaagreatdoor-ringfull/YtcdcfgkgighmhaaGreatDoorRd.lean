import Derived.Test.YtcdcfgkgighmhaaGreatDoorRc
import Derived.Deep.LoopGhost
namespace Go.Proofs.YtcdcfgkgighmhaaGreatDoor
open Go.RowKit

set_option maxHeartbeats 1000000 in
theorem literal_any (w : World) (b : Nat) (t word : List UInt8) (p : Nat) (x : X5) (c q : Int) (h : RB w b t p x c q) (hp : p ≤ t.length) (ht : t.length ≤ 1073741824) (hw : word.length ≤ 100) :
    Calls Tryz.prog 68 #[.pointer (some ⟨b, 0, none⟩), .string ⟨word.toArray⟩] w fun e w' => But w w' b ∧
      (∀ u p', litF t word p = .ok u p' → e = .returned (.bool true) ∧ RB w' b t p' x c q) ∧
      (∀ c' p', litF t word p = .bad c' p' → e = .returned (.bool false) ∧ ∃ p2, RB w' b t p2 x c' p') := by
  have HR0 : Hid (RB w b t p x c q) := h
  obtain ⟨R, hR⟩ : ∃ R, litF t word p = R := ⟨_, rfl⟩
  rw [hR]
  have HE : Hid (litF t word p = R) := hR
  have Hs : Hid (∀ k, k < word.length → (⟨word.toArray⟩ : ByteArray).extract k (k + 1) = ⟨#[word.getD k 0]⟩) := by
    intro k hk
    rw [Lib.extract_eq]
    simp only [ByteArray.mk.injEq]
    have : List.take (k + 1 - k) (List.drop k word) = [word.getD k 0] := by
      rw [drop_at hk, show k + 1 - k = 1 by omega]
      rfl
    show (List.take (k + 1 - k) (List.drop k word)).toArray = _
    rw [this]
  have HT : Hid (∀ (w : World) (k : Nat) (d : UInt8), RB w b t k x c q → k ≤ t.length → Calls Tryz.prog 42 #[.pointer (some ⟨b, 0, none⟩), .string { data := #[d] }] w fun e w' => e = .returned (.bool (tk t [d] k)) ∧ But w w' b ∧ RB w' b t (stp (tk t [d] k) k) x c q) := fun w k d h hk => take_any w b t [d] k x c q h hk ht
  have HW : Hid (∀ (w : World) (k : Nat), RB w b t k x c q → Calls Tryz.prog 43 #[.pointer (some ⟨b, 0, none⟩)] w fun e w' => e = .returned (.bool false) ∧ But w w' b ∧ RB w' b t k x 31 k) := fun w k h => wrong_any w b t k x c q h
  clear h hR
  go_enter Tryz.func68, Tryz.ntmps68
  go_wp2
  go_loopw [8] (fun s wx => ∃ i : Nat, s = .int .i64 i ∧ i ≤ word.length ∧ p + i ≤ t.length ∧ But w wx b ∧ litF t (word.drop i) (p + i) = R ∧ RB wx b t (p + i) x c q) (fun s _ => word.length - (intOf s).toNat)
  case atStart => exact ⟨0, rfl, Nat.zero_le _, hp, But.refl _ _, HE.out, HR0.out⟩
  case round =>
    obtain ⟨i, rfl, hi, hpi, hb, he, hr⟩ := hrel
    have HB : Hid (But w wr b) := hb
    have HRi : Hid (RB wr b t (p + i) x c q) := hr
    rcases Nat.lt_or_ge i word.length with hl | hl
    · have hs := Hs.out i hl
      rw [drop_at hl] at he
      obtain ⟨d, hd⟩ : ∃ d, word.getD i 0 = d := ⟨_, rfl⟩
      rw [hd] at hs he
      have Hs1 : Hid ((⟨word.toArray⟩ : ByteArray).extract i (i + 1) = ⟨#[d]⟩) := hs
      have C := HT.out wr (p + i) d hr hpi
      have HEi : Hid (litF t (d :: word.drop (i + 1)) (p + i) = R) := he
      clear hs he hd hb hr
      go_wp2_with fail
      rw [Hs1.out]
      refine C.mono ?_
      clear C
      rintro e w1 ⟨rfl, hB1, hR1⟩
      have HB1 : Hid (But w w1 b) := HB.out.trans hB1
      clear hB1
      cases htk : tk t [d] (p + i)
      · rw [htk] at hR1
        have C2 := HW.out w1 (p + i) hR1
        have hRe : R = .bad 31 (p + i) := by rw [← HEi.out]; unfold litF; rw [htk]; rfl
        have HRe : Hid (R = .bad 31 (p + i)) := hRe
        clear htk hRe hR1
        go_wp2_with fail
        refine C2.mono ?_
        rintro e w2 ⟨rfl, hB2, hR2⟩
        go_wp2
        go_ret
        refine ⟨HB1.out.trans hB2, ?_, ?_⟩
        · intro u p' e; rw [HRe.out] at e; cases e
        · intro c' p' e; rw [HRe.out] at e; cases e; exact ⟨rfl, _, hR2⟩
      · rw [htk] at hR1
        have hlk := tk_lt htk
        have hR1 : RB w1 b t (p + i + 1) x c q := hR1
        have hRe : litF t (word.drop (i + 1)) (p + i + 1) = R := by rw [← HEi.out]; conv => rhs; unfold litF; rw [htk, if_pos rfl]
        have HRe : Hid (litF t (word.drop (i + 1)) (p + i + 1) = R) := hRe
        have HR1 : Hid (RB w1 b t (p + i + 1) x c q) := hR1
        clear htk hRe hR1
        go_wp2
        exact ⟨⟨i + 1, rfl, by omega, by omega, HB1.out, HRe.out, HR1.out⟩, by simp [intOf]; omega⟩
    · have hiw : i = word.length := by omega
      rw [hiw, List.drop_length] at he
      have HRe : Hid (R = .ok () (p + i)) := by rw [hiw, ← he]; rfl
      clear he hb hr hiw
      go_wp2
      go_ret
      refine ⟨HB.out, ?_, ?_⟩
      · intro u p' e; rw [HRe.out] at e; cases e; exact ⟨rfl, HRi.out⟩
      · intro c' p' e; rw [HRe.out] at e; cases e

end Go.Proofs.YtcdcfgkgighmhaaGreatDoor
