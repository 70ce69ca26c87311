import Derived.Test.YtcdcfgkgighmhaaGreatDoorRe
namespace Go.Proofs.YtcdcfgkgighmhaaGreatDoor
open Go.RowKit Go.Shelf

/-- The tables of unicode/utf8 stand. -/
def U8 (w : World) : Prop := Lib.Utf8Tabs 2 3 w

theorem U8.below {w w' : World} (h : U8 w) (hb : Below w.heap.size w w') : U8 w' := Utf8Tabs_below h hb
theorem U8.drewN {w : World} (h : U8 w) (n : Nat) : U8 (w.drewN n) := h

theorem firstT_lt (b : Nat) : Lib.firstT b < 256 := by
  rcases Lib.firstT_cases b with h | h | h | h | h | h | h | h | h <;> omega
theorem firstT_16 (b : Nat) (h : 2 ≤ Lib.firstT b % 8) : Lib.firstT b / 16 < 5 := by
  rcases Lib.firstT_cases b with h1 | h1 | h1 | h1 | h1 | h1 | h1 | h1 | h1 <;> rw [h1] at h ⊢ <;> omega

set_option maxRecDepth 100000 in
set_option maxHeartbeats 4000000 in
theorem fullRune_row (s : ByteArray) (X : Nat) (b0 b1 b2 : UInt8) (w : World) (hl : s.size ≤ 1073741824)
    (h00 : (h : 0 < s.size) → s[0]'h = b0) (h11 : (h : 1 < s.size) → s[1]'h = b1) (h22 : (h : 2 < s.size) → s[2]'h = b2)
    (hX : Lib.firstT b0.toNat = X) (hT : U8 w) :
    Calls Tryz.prog 91 #[.string s] w fun e w' => e = .returned (.bool (fullN s.size b0.toNat b1.toNat b2.toNat)) ∧ Below w.heap.size w w' := by
  rcases Nat.eq_zero_or_pos s.size with h0 | h0
  · have hF : fullN s.size b0.toNat b1.toNat b2.toNat = false := by rw [h0]; rfl
    rw [hF]
    clear hF h00 h11 h22 hT hX
    have hzb : ((s.size : Int) == 0) = true := by rw [h0]; rfl
    clear h0
    go_enter Tryz.func91, Tryz.ntmps91
    go_wp2
    go_ret
    exact ⟨rfl, Below.refl _ _⟩
  · have hX5 : 2 ≤ X % 8 → X / 16 < 5 := by rw [← hX]; exact firstT_16 _
    have hXl : X < 256 := by rw [← hX]; exact firstT_lt _
    have h00 := h00 h0
    have cX : w.cell? ⟨2, b0.toNat, none⟩ = some (.int .u8 X) := by rw [← hX]; exact hT.1 _ b0.toNat_lt
    have hand : bits .and .u8 (X : Int) 7 = ((X % 8 : Nat) : Int) := and7 ⟨X, hXl⟩
    have HF2 : Hid (fullN s.size b0.toNat b1.toNat b2.toNat = if X % 8 ≤ s.size then true else if 1 < s.size ∧ (b1.toNat < Lib.accLo (X / 16) ∨ Lib.accHi (X / 16) < b1.toNat) then true else decide (2 < s.size ∧ (b2.toNat < 128 ∨ 191 < b2.toNat))) := by
      show _ = _
      unfold fullN
      rw [if_neg (by omega), hX]
    clear hX
    have hzb : ((s.size : Int) == 0) = false := by
      have : (s.size : Int) ≠ 0 := by omega
      simpa using this
    have hlt0 : (0 : Int) < (s.size : Int) := by omega
    have hbl : b0.toNat < 256 := b0.toNat_lt
    have hbl1 : b1.toNat < 256 := b1.toNat_lt
    have hbl2 : b2.toNat < 256 := b2.toNat_lt
    obtain ⟨sz, hsz8⟩ : ∃ sz, X % 8 = sz := ⟨_, rfl⟩
    rw [hsz8] at hand HF2 hX5
    by_cases hA : sz ≤ s.size
    · have hAd : decide ((s.size : Int) ≥ (sz : Int)) = true := by simp; omega
      have hF := HF2.out
      rw [if_pos hA] at hF
      rw [hF]
      clear HF2 hF hsz8 h11 h22 hX5 hT
      go_enter Tryz.func91, Tryz.ntmps91
      go_wp2
      go_ret
      exact ⟨rfl, Below.refl _ _⟩
    · have hAd : decide ((s.size : Int) ≥ (sz : Int)) = false := by simp; omega
      obtain ⟨I, hI⟩ : ∃ I, X / 16 = I := ⟨_, rfl⟩
      have hI5 : I < 5 := by rw [← hI]; exact hX5 (by omega)
      have cL : w.cell? ⟨3, I * 2, none⟩ = some (.int .u8 (Lib.accLo I)) := by rw [Nat.mul_comm]; exact (hT.2 I (by omega)).1
      have cH : w.cell? ⟨3, I * 2 + 1, none⟩ = some (.int .u8 (Lib.accHi I)) := by rw [Nat.mul_comm]; exact (hT.2 I (by omega)).2
      have hshr0 : (X : Int) / 16 = (I : Int) := by omega
      rw [hI] at HF2
      clear hX5 hT hI
      generalize Lib.accLo I = lo at *
      generalize Lib.accHi I = hi at *
      have hshr : (X : Int) / 16 = (I : Int) := hshr0
      have hs8 : sz < 8 := by omega
      have hwz : wrap64 (sz : Int) = (sz : Int) := (by unfold wrap64; omega)
      by_cases h1 : 1 < s.size
      · have h1d : decide ((s.size : Int) > 1) = true := by simp; omega
        have h1i : (1 : Int) < (s.size : Int) := by omega
        have h11 := h11 h1
        by_cases hlo : b1.toNat < lo
        · have q1 : decide ((b1.toNat : Int) < (lo : Int)) = true := by simp; omega
          have hF := HF2.out
          rw [if_neg hA, if_pos ⟨h1, Or.inl hlo⟩] at hF
          rw [hF]
          clear HF2 hF hsz8 hshr0
          clear h22
          go_enter Tryz.func91, Tryz.ntmps91
          go_wp2
          go_quiet (fail)
          go_wp2
          go_ret
          exact ⟨rfl, by (repeat' (first | with_reducible assumption | with_reducible exact Below.refl _ _ | with_reducible exact Nat.le_refl _ | with_reducible refine Below.setCell ?_ ?_ _ | with_reducible refine Below.alloc ?_ ?_ _ | with_reducible apply Below.drew | with_reducible apply below_drewN | omega | (simp; done) | (simp; omega)))⟩
        · have q1 : decide ((b1.toNat : Int) < (lo : Int)) = false := by simp; omega
          by_cases hhi : hi < b1.toNat
          · have q2 : decide ((hi : Int) < (b1.toNat : Int)) = true := by simp; omega
            have hF := HF2.out
            rw [if_neg hA, if_pos ⟨h1, Or.inr hhi⟩] at hF
            rw [hF]
            clear HF2 hF hsz8 hshr0
            clear h22
            go_enter Tryz.func91, Tryz.ntmps91
            go_wp2
            go_quiet (fail)
            go_wp2
            go_ret
            exact ⟨rfl, by (repeat' (first | with_reducible assumption | with_reducible exact Below.refl _ _ | with_reducible exact Nat.le_refl _ | with_reducible refine Below.setCell ?_ ?_ _ | with_reducible refine Below.alloc ?_ ?_ _ | with_reducible apply Below.drew | with_reducible apply below_drewN | omega | (simp; done) | (simp; omega)))⟩
          · have q2 : decide ((hi : Int) < (b1.toNat : Int)) = false := by simp; omega
            have hF := HF2.out
            rw [if_neg hA, if_neg (by omega)] at hF
            rw [hF]
            clear HF2 hF hsz8 hshr0
            by_cases h2 : 2 < s.size
            · have h2d : decide ((s.size : Int) > 2) = true := by simp; omega
              have h2i : (2 : Int) < (s.size : Int) := by omega
              have h22 := h22 h2
              by_cases hb : b2.toNat < 128
              · have q3 : decide ((b2.toNat : Int) < 128) = true := by simp; omega
                have hE : decide (2 < s.size ∧ (b2.toNat < 128 ∨ 191 < b2.toNat)) = true := by simp; omega
                rw [hE]
                clear hE
                go_enter Tryz.func91, Tryz.ntmps91
                go_wp2
                go_quiet (fail)
                go_wp2
                go_ret
                exact ⟨rfl, by (repeat' (first | with_reducible assumption | with_reducible exact Below.refl _ _ | with_reducible exact Nat.le_refl _ | with_reducible refine Below.setCell ?_ ?_ _ | with_reducible refine Below.alloc ?_ ?_ _ | with_reducible apply Below.drew | with_reducible apply below_drewN | omega | (simp; done) | (simp; omega)))⟩
              · have q3 : decide ((b2.toNat : Int) < 128) = false := by simp; omega
                by_cases hb2 : 191 < b2.toNat
                · have q4 : decide ((191 : Int) < (b2.toNat : Int)) = true := by simp; omega
                  have hE : decide (2 < s.size ∧ (b2.toNat < 128 ∨ 191 < b2.toNat)) = true := by simp; omega
                  rw [hE]
                  clear hE
                  go_enter Tryz.func91, Tryz.ntmps91
                  go_wp2
                  go_quiet (fail)
                  go_wp2
                  go_ret
                  exact ⟨rfl, by (repeat' (first | with_reducible assumption | with_reducible exact Below.refl _ _ | with_reducible exact Nat.le_refl _ | with_reducible refine Below.setCell ?_ ?_ _ | with_reducible refine Below.alloc ?_ ?_ _ | with_reducible apply Below.drew | with_reducible apply below_drewN | omega | (simp; done) | (simp; omega)))⟩
                · have q4 : decide ((191 : Int) < (b2.toNat : Int)) = false := by simp; omega
                  have hE : decide (2 < s.size ∧ (b2.toNat < 128 ∨ 191 < b2.toNat)) = false := by simp; omega
                  rw [hE]
                  clear hE
                  go_enter Tryz.func91, Tryz.ntmps91
                  go_wp2
                  go_quiet (fail)
                  go_wp2
                  go_ret
                  exact ⟨rfl, by (repeat' (first | with_reducible assumption | with_reducible exact Below.refl _ _ | with_reducible exact Nat.le_refl _ | with_reducible refine Below.setCell ?_ ?_ _ | with_reducible refine Below.alloc ?_ ?_ _ | with_reducible apply Below.drew | with_reducible apply below_drewN | omega | (simp; done) | (simp; omega)))⟩
            · have h2d : decide ((s.size : Int) > 2) = false := by simp; omega
              have hE : decide (2 < s.size ∧ (b2.toNat < 128 ∨ 191 < b2.toNat)) = false := by simp; omega
              rw [hE]
              clear hE h22
              go_enter Tryz.func91, Tryz.ntmps91
              go_wp2
              go_quiet (fail)
              go_wp2
              go_ret
              exact ⟨rfl, by (repeat' (first | with_reducible assumption | with_reducible exact Below.refl _ _ | with_reducible exact Nat.le_refl _ | with_reducible refine Below.setCell ?_ ?_ _ | with_reducible refine Below.alloc ?_ ?_ _ | with_reducible apply Below.drew | with_reducible apply below_drewN | omega | (simp; done) | (simp; omega)))⟩
      · have h1d : decide ((s.size : Int) > 1) = false := by simp; omega
        have h2d : decide ((s.size : Int) > 2) = false := by simp; omega
        have hE : decide (2 < s.size ∧ (b2.toNat < 128 ∨ 191 < b2.toNat)) = false := by simp; omega
        have hF := HF2.out
        rw [if_neg hA, if_neg (by omega), hE] at hF
        rw [hF]
        clear HF2 hF hsz8 hE h11 h22 hshr0
        go_enter Tryz.func91, Tryz.ntmps91
        go_wp2
        go_quiet (fail)
        go_wp2
        go_ret
        exact ⟨rfl, by (repeat' (first | with_reducible assumption | with_reducible exact Below.refl _ _ | with_reducible exact Nat.le_refl _ | with_reducible refine Below.setCell ?_ ?_ _ | with_reducible refine Below.alloc ?_ ?_ _ | with_reducible apply Below.drew | with_reducible apply below_drewN | omega | (simp; done) | (simp; omega)))⟩

theorem fullRune_any (l : List UInt8) (w : World) (hT : U8 w) (hl : l.length ≤ 1073741824) :
    Calls Tryz.prog 91 #[.string ⟨l.toArray⟩] w fun e w' => e = .returned (.bool (fullR l)) ∧ Below w.heap.size w w' := by
  have gx : ∀ k (h : k < l.length), (⟨l.toArray⟩ : ByteArray)[k]'(by show k < l.toArray.size; simpa using h) = l.getD k 0 := by
    intro k h
    show l.toArray[k]'(by simp; omega) = _
    simp [List.getD_eq_getElem?_getD, h]
  exact fullRune_row ⟨l.toArray⟩ _ _ _ _ w hl (gx 0) (gx 1) (gx 2) rfl hT

end Go.Proofs.YtcdcfgkgighmhaaGreatDoor
