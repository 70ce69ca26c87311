import Derived.Test.YtlapkbdjipocoaaDoorTh
import Derived.Test.YtlapkbdjipocoaaDoorJZ
import Derived.Lib.AppendStr
namespace Go.Proofs.YtlapkbdjipocoaaDoor
open Go.RowKit Go.Shelf

theorem hne_uw : 5 ≠ 56 := by decide

/-- The writer: all that was put into it, as far as that has room. -/
structure WS (B0 : Nat) (w : World) (b : Nat) (full : List UInt8) (tv : Value) (acc : List UInt8) (lg : Bool) : Prop where
  lo : B0 ≤ b
  blo : B0 ≤ w.heap.size
  bl : Bl 56 w b [tv, .bool lg]
  own : w.ownsRow B0 5 1 tv acc.length (acc.map B)
  fit : full.length ≤ 262144 → acc = full ∧ lg = false
  big : 262144 < full.length → lg = true
  len : acc.length ≤ 262144

theorem strC (l : List UInt8) : Lib.strCells ⟨l.toArray⟩ = l.map B := rfl

theorem WS.below {B0 : Nat} {w w' : World} {b : Nat} {full acc : List UInt8} {tv : Value} {lg : Bool} (h : WS B0 w b full tv acc lg) (hb : Below w.heap.size w w') : WS B0 w' b full tv acc lg :=
  ⟨h.lo, Nat.le_trans h.blo hb.size, h.bl.below hb h.bl.lt, own_below h.own hb (Nat.le_refl _), h.fit, h.big, h.len⟩

set_option maxRecDepth 100000 in
set_option maxHeartbeats 4000000 in
theorem put_any {B0 : Nat} {w : World} {b : Nat} {full acc : List UInt8} {tv : Value} {lg : Bool} (l : List UInt8) (h : WS B0 w b full tv acc lg) (hl : l.length ≤ 1073741824) :
    Calls Tryd.prog 50 #[.pointer (some ⟨b, 0, none⟩), .string ⟨l.toArray⟩] w fun e w' => e = .returned (.tuple #[]) ∧ Below B0 w w' ∧ ∃ tv' acc' lg', WS B0 w' b (full ++ l) tv' acc' lg' := by
  have c0 : w.cell? ⟨b, 0, none⟩ = some tv := h.bl.cell 0 (by simp)
  have c1 : w.cell? ⟨b, 1, none⟩ = some (.bool lg) := h.bl.cell 1 (by simp)
  have f0 := h.bl.frozen 0
  have f1 := h.bl.frozen 1
  have hal := h.len
  have H : Hid (WS B0 w b full tv acc lg) := h
  obtain ⟨ta, tc, e, htc, _⟩ := own_slice h.own
  subst e
  by_cases hbig : 262144 < acc.length + l.length
  · have qb : decide ((acc.length : Int) + (l.length : Int) > 262144) = true := decide_eq_true (by omega)
    have hWS : WS B0 (w.setCell ⟨b, 1, none⟩ (.bool true)) b (full ++ l) (.slice ta acc.length tc) acc true := by
      have hbut : But w (w.setCell ⟨b, 1, none⟩ (.bool true)) b := (But.refl _ _).set _ _
      refine ⟨h.lo, Nat.le_trans h.blo hbut.size, h.bl.set 1 _, own_but h.own h.bl hne_uw hbut, fun hf => ?_, fun _ => rfl, h.len⟩
      rw [List.length_append] at hf
      have := h.fit (by omega)
      rw [this.1] at hbig
      omega
    have HW : Hid (WS B0 (w.setCell ⟨b, 1, none⟩ (.bool true)) b (full ++ l) (.slice ta acc.length tc) acc true) := hWS
    have HB : Hid (Below B0 w (w.setCell ⟨b, 1, none⟩ (.bool true))) := Below.setCell (Below.refl _ _) h.lo _
    have d1 : (w.setCell ⟨b, 1, none⟩ (.bool true)).cell? ⟨b, 1, none⟩ = some (.bool true) := hWS.bl.cell 1 (by simp)
    clear h hWS
    go_enter Tryd.func50, Tryd.ntmps50
    go_wp2
    go_end0
    exact ⟨rfl, HB.out, _, _, _, HW.out⟩
  · have qb : decide ((acc.length : Int) + (l.length : Int) > 262144) = false := decide_eq_false (by omega)
    cases lg
    · have hfull : acc = full := (h.fit (by
        rcases Nat.lt_or_ge 262144 full.length with h1 | h1
        · have := h.big h1; cases this
        · exact h1)).1
      obtain ⟨i0, hi, hz0, hz1, hz2⟩ := info_parts infoU8
      have HO : Hid (w.ownsRow B0 5 1 (.slice ta acc.length tc) acc.length (acc.map B)) := h.own
      have hblo := h.blo
      have hsz : (⟨l.toArray⟩ : ByteArray).size = l.length := by show l.toArray.size = _; simp
      have HFL : Hid (acc = full) := hfull
      have hnb : (Value.slice ta acc.length tc).ownBlock ≠ some b := block_apart h.own h.bl hne_uw
      have HNB : Hid ((Value.slice ta acc.length tc).ownBlock ≠ some b) := hnb
      have hlo := h.lo
      clear h hfull hnb
      go_enter Tryd.func50, Tryd.ntmps50
      go_wp2_with (at_builtin; refine Lib.wpList_append_own_string _ rfl (.tmp 25) (.tmp 26) 54 9 rfl B0 5 i0 Tryd.underlying54 Tryd.underlying9 hi hz0 hz1 hz2 _ acc.length (acc.map B) rfl HO.out ⟨l.toArray⟩ rfl (by rw [hsz]; unfold maxLen; omega) (by rw [hsz]; omega) hblo ?_; intro v5 w5 h5 h6 _; rw [hsz] at h5; obtain ⟨a5, k5, e5, _, _⟩ := own_slice h5; subst e5; have HB5 : Hid (Bl 56 w5 b [.slice ta acc.length tc, .bool false]) := bl_grown H.out.bl h6 HNB.out; have d0 : w5.cell? ⟨b, 0, none⟩ = some (.slice ta acc.length tc) := HB5.out.cell 0 (by simp); have g0 := HB5.out.frozen 0)
      have HB6 : Hid (Below B0 w (w5.setCell ⟨b, 0, none⟩ (.slice a5 (acc.length + l.length) k5))) := Below.setCell (Below.grown (Below.refl _ _) h6 hblo (own_block HO.out)) hlo _
      have HW6 : Hid (WS B0 (w5.setCell ⟨b, 0, none⟩ (.slice a5 (acc.length + l.length) k5)) b (full ++ l) (.slice a5 (acc.length + l.length) k5) (acc ++ l) false) := by
        have hbut : But w5 (w5.setCell ⟨b, 0, none⟩ (.slice a5 (acc.length + l.length) k5)) b := (But.refl _ _).set _ _
        have h7 : w5.ownsRow B0 5 1 (.slice a5 (acc.length + l.length) k5) (acc ++ l).length ((acc ++ l).map B) := by rw [List.length_append, List.map_append, ← strC]; exact h5
        refine ⟨hlo, Nat.le_trans hblo (Nat.le_trans h6.size hbut.size), HB5.out.set 0 _, own_but h7 HB5.out hne_uw hbut, fun _ => ⟨by rw [HFL.out], rfl⟩, fun hx => ?_, by rw [List.length_append]; omega⟩
        rw [← HFL.out, List.length_append] at hx
        omega
      clear h5 h6
      go_end0
      exact ⟨rfl, HB6.out, _, _, _, HW6.out⟩
    · have hf : 262144 < full.length := by
        rcases Nat.lt_or_ge 262144 full.length with h1 | h1
        · exact h1
        · have := (h.fit h1).2; cases this
      have HW : Hid (WS B0 w b (full ++ l) (.slice ta acc.length tc) acc true) := ⟨h.lo, h.blo, h.bl, h.own, fun hx => by rw [List.length_append] at hx; omega, fun _ => rfl, h.len⟩
      clear h
      go_enter Tryd.func50, Tryd.ntmps50
      go_wp2
      go_end0
      exact ⟨rfl, Below.refl _ _, _, _, _, HW.out⟩

end Go.Proofs.YtlapkbdjipocoaaDoor
