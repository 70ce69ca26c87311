import Derived.Test.YtjehkpndchadbaaGreatDoorRW
namespace Go.Proofs.YtjehkpndchadbaaGreatDoor
open Go.RowKit Go.Shelf

set_option maxRecDepth 100000 in
set_option maxHeartbeats 4000000 in
theorem quoted_any (w : World) (b : Nat) (t : List UInt8) (p : Nat) (x : X5) (c q : Int) (h : RB w b t p x c q) (hT : U8 w) (hp : p < t.length) (ht : t.length ≤ 1073741824) :
    Calls Tryz.prog 46 #[.pointer (some ⟨b, 0, none⟩)] w fun e w' => But w w' b ∧
      (∀ l p', quoF t (t.length + 1) (p + 1) [] = .ok l p' → e = .returned (.tuple #[.string ⟨l.toArray⟩, .bool true]) ∧ RB w' b t p' x c q) ∧
      (∀ c' p', quoF t (t.length + 1) (p + 1) [] = .bad c' p' → e = .returned (.tuple #[.string ⟨#[]⟩, .bool false]) ∧ ∃ p2, RB w' b t p2 x c' p') := by
  obtain ⟨R, hR⟩ : ∃ R, quoF t (t.length + 1) (p + 1) [] = R := ⟨_, rfl⟩
  rw [hR]
  have HE : Hid (quoF t (t.length + 1) (p + 1) [] = R) := hR
  have c1 := h.c1
  have f1 := h.fz 1
  have HB1 : Hid (But w (w.setCell ⟨b, 1, none⟩ (.int .i64 (p + 1 : Nat))) b) := (But.refl _ _).set _ _
  have HR1 : Hid (RB (w.setCell ⟨b, 1, none⟩ (.int .i64 (p + 1 : Nat))) b t (p + 1) x c q) := h.pos (p + 1)
  have HU1 : Hid (U8 (w.setCell ⟨b, 1, none⟩ (.int .i64 (p + 1 : Nat)))) := hT.but h HB1.out
  have HT : Hid (∀ (w : World) (k : Nat), RB w b t k x c q → k ≤ t.length → Calls Tryz.prog 31 #[.pointer (some ⟨b, 0, none⟩), .string { data := #[34] }] w fun e w' => e = .returned (.bool (tk t [34] k)) ∧ But w w' b ∧ RB w' b t (stp (tk t [34] k) k) x c q) := fun w k h hk => take_any w b t [34] k x c q h hk ht
  have HC : Hid (∀ (w : World) (k : Nat), RB w b t k x c q → U8 w → k ≤ t.length → Calls Tryz.prog 56 #[.pointer (some ⟨b, 0, none⟩)] w fun e w' => But w w' b ∧
      (∀ u p', chrF t k = .ok u p' → e = .returned (.tuple #[.int .i32 u, .bool true]) ∧ RB w' b t p' x c q) ∧
      (∀ c' p', chrF t k = .bad c' p' → ∃ v, e = .returned (.tuple #[.int .i32 v, .bool false]) ∧ ∃ p2, RB w' b t p2 x c' p')) := fun w k h hT hk => char_any w b t k x c q h hT hk ht
  have hur : 5 ≠ 67 := by decide
  clear h hR hT
  go_enter Tryz.func46, Tryz.ntmps46
  go_wp2
  go_loopg [4] (t.length + 1) (fun gk s wx => ∃ (k : Nat) (acc : List UInt8), k ≤ t.length ∧ t.length < gk + k ∧ But w wx b ∧ quoF t gk k acc = R ∧ wx.ownsRowF w.heap.size 5 1 s acc.length (acc.map B) ∧ RB wx b t k x c q ∧ U8 wx ∧ acc.length ≤ 4 * k)
  case atStart => exact ⟨p + 1, [], hp, by omega, HB1.out, HE.out, World.ownsRowF_nil _ _ _ _, HR1.out, HU1.out, by simp⟩
  case round =>
    obtain ⟨k, acc, hk, hg, hb, he, ho, hr, hu, hal⟩ := hrel
    obtain ⟨g', rfl⟩ : ∃ g', gk = g' + 1 := ⟨gk - 1, by omega⟩
    have HB2 : Hid (But w wr b) := hb
    have HO2 : Hid (wr.ownsRowF w.heap.size 5 1 u4 acc.length (acc.map B)) := ho
    have HR2 : Hid (RB wr b t k x c q) := hr
    have HU2 : Hid (U8 wr) := hu
    have HEk : Hid (quoF t (g' + 1) k acc = R) := he
    have C := HT.out wr k hr hk
    clear hb he ho hr hu
    go_wp2_with fail
    refine C.mono ?_
    clear C
    rintro e w1 ⟨rfl, hB1, hR1⟩
    have HB3 : Hid (But w w1 b) := HB2.out.trans hB1
    have HO3 : Hid (w1.ownsRowF w.heap.size 5 1 u4 acc.length (acc.map B)) := rowF_but HO2.out HR2.out hur hB1
    have HU3 : Hid (U8 w1) := HU2.out.but HR2.out hB1
    clear hB1 HB2 HO2 HU2 HR2
    cases htk : tk t [34] k
    · rw [htk] at hR1
      have hR1 : RB w1 b t k x c q := hR1
      have HR3 : Hid (RB w1 b t k x c q) := hR1
      have HEk2 : Hid ((match chrF t k with
        | .bad c q => Lx.bad c q
        | .ok r q => quoF t g' q (acc ++ Lib.encodeRune r)) = R) := by
          show _ = _
          rw [← HEk.out]
          conv => rhs; unfold quoF
          rw [htk, if_neg Bool.false_ne_true]
          rfl
      have C := HC.out w1 k hR1 HU3.out hk
      clear htk HEk hR1
      cases hch : chrF t k with
      | bad c1 q1 =>
        have Hz : Hid (R = .bad c1 q1) := by show _ = _; rw [← HEk2.out, hch]
        rw [hch] at C
        clear hch HEk2
        go_wp2_with fail
        refine C.mono ?_
        clear C
        rintro e w2 ⟨hB2, _, h3⟩
        obtain ⟨v, rfl, p2, hR2⟩ := h3 c1 q1 rfl
        clear h3
        go_wp2
        go_ret2
        refine ⟨HB3.out.trans hB2, ?_, ?_⟩
        · intro u' p' e; rw [Hz.out] at e; cases e
        · intro c' p' e; rw [Hz.out] at e; cases e; exact ⟨rfl, p2, hR2⟩
      | ok r k2 =>
        have hrr := chrF_rg hch
        have hrk := chrF_ok hch
        have hr0 := hrr.1
        have hr1 := hrr.2
        have hk1 := hrk.1
        have hk2 := hrk.2
        have Hz : Hid (quoF t g' k2 (acc ++ Lib.encodeRune r) = R) := by show _ = _; rw [← HEk2.out, hch]
        rw [hch] at C
        clear hch HEk2 hrr hrk
        go_wp2_with fail
        refine C.mono ?_
        clear C
        rintro e w2 ⟨hB2, h3, _⟩
        obtain ⟨rfl, hR2⟩ := h3 r k2 rfl
        clear h3
        have HB4 : Hid (But w w2 b) := HB3.out.trans hB2
        have HO4 : Hid (w2.ownsRowF w.heap.size 5 1 u4 acc.length (acc.map B)) := rowF_but HO3.out HR3.out hur hB2
        have HU4 : Hid (U8 w2) := HU3.out.but HR3.out hB2
        have HR4 : Hid (RB w2 b t k2 x c q) := hR2
        have hwz := HB4.out.size
        have CA := appendRune_any w.heap.size u4 acc r w2 hr0 hr1 HO4.out (by omega) hwz
        clear hB2 hR2 HB3 HO3 HU3 HR3
        go_wp2_with fail
        refine CA.mono ?_
        clear CA
        rintro e w3 ⟨v', rfl, ho5, hk5, hs5, h51, h52, h53⟩
        have HO5 : Hid (w3.ownsRowF w.heap.size 5 1 v' (acc ++ Lib.encodeRune r).length ((acc ++ Lib.encodeRune r).map B)) := ho5
        have HB5 : Hid (But w2 w3 b ∨ True) := Or.inr trivial
        have HN : Hid (u4.ownBlock ≠ some b) := rowF_ne HO4.out HR4.out hur
        have HR5 : Hid (RB w3 b t k2 x c q) := by
          have h1 := HR4.out
          have h2 := h1.lt
          unfold RB Bl at h1 ⊢
          rw [hk5 b h2 (fun e => HN.out e.symm)]
          exact h1
        have HU5 : Hid (U8 w3) := by
          have hU := HU4.out
          have hg0 : ∀ g cc v, w2.cell? ⟨g, cc, none⟩ = some v → (∀ j, g = j → j < w.heap.size ∨ u4.ownBlock ≠ some j) → w3.cell? ⟨g, cc, none⟩ = some v := fun g cc v hv hj => cell_but hv fun hlt => hk5 g hlt fun e => by
            rcases hj g rfl with h | h
            · have := (HO4.out.lt g e.symm).1; omega
            · exact h e.symm
          have l3 : 1 < w.heap.size := by
            have := World.block_lt_of_cell? _ _ (HU1.out.1 0 (by omega))
            simpa using this
          have l4 : 2 < w.heap.size := by
            have := World.block_lt_of_cell? _ _ (HU1.out.2 0 (by omega)).1
            simpa using this
          exact ⟨fun cc hcc => hg0 _ _ _ (hU.1 cc hcc) fun j hj => Or.inl (by omega), fun i hi => ⟨hg0 _ _ _ (hU.2 i hi).1 fun j hj => Or.inl (by omega), hg0 _ _ _ (hU.2 i hi).2 fun j hj => Or.inl (by omega)⟩⟩
        have HB6 : Hid (But w w3 b) := ⟨h51.trans HB4.out.os, h52.trans HB4.out.tape, h53.trans HB4.out.output, Nat.le_trans hwz hs5, fun j hj hjb => by
          rw [hk5 j (by omega) (fun e => by have := (HO4.out.lt j e.symm).1; omega)]
          exact HB4.out.block j hj hjb⟩
        have hel := encodeRune_len r
        have HL : Hid ((acc ++ Lib.encodeRune r).length ≤ 4 * k2) := by show _ ≤ _; rw [List.length_append]; omega
        clear ho5 hk5 hs5 h51 h52 h53 HB5 HN HR4 HU4 HO4 HB4 hel
        go_wp2
        go_roundg g'
        case measure => omega
        case rel => exact ⟨k2, acc ++ Lib.encodeRune r, hk2, by omega, HB6.out, Hz.out, HO5.out, HR5.out, HU5.out, HL.out⟩
    · rw [htk] at hR1
      have hR1 : RB w1 b t (k + 1) x c q := hR1
      have HR3 : Hid (RB w1 b t (k + 1) x c q) := hR1
      have Hz : Hid (R = .ok acc (k + 1)) := by
        show _ = _
        rw [← HEk.out]
        unfold quoF
        rw [htk]
        rfl
      obtain ⟨a5, c5, e5, hrd⟩ := rowF_rd HO3.out
      subst e5
      have hcv := conv_any w1 a5 c5 acc hrd
      clear htk HEk hR1 hrd
      go_wp2
      go_ret2
      refine ⟨HB3.out, ?_, ?_⟩
      · intro u' p' e; rw [Hz.out] at e; cases e; exact ⟨rfl, HR3.out⟩
      · intro c' p' e; rw [Hz.out] at e; cases e

end Go.Proofs.YtjehkpndchadbaaGreatDoor
